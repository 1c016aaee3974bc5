/-
  Ticks: a turn on a processor.
-/
import Derived.Test.YteagpjlgjfaclaaGreatDoorSysCopy
import Derived.Test.YteagpjlgjfaclaaGreatDoorFairList
import Derived.Test.YteagpjlgjfaclaaGreatDoorCallSpec
import Derived.Test.YteagpjlgjfaclaaGreatDoorDueSpec
import Derived.Test.YteagpjlgjfaclaaGreatDoorFixSpec
import Derived.Test.YteagpjlgjfaclaaGreatDoorCur
import Derived.Deep.Cut
namespace Go.Proofs.YteagpjlgjfaclaaGreatDoor
set_option maxRecDepth 100000
open Go.RowKit
attribute [local go_sem] aa.refl aa.alloc aa.drew aa.drewN
theorem vk {v:Sv} {vs:List Lv} {x:Rw} {c n:Nat} (h:∀ i,¬ aX v vs i c) (f:∀ q,x.val.ownBlock=some q->v.r.val.ownBlock=some q∨n <= q) (hc:c < n):∀ i,¬ aX { v with r:=x } vs i c:=by
 intro i hi
 match i,hi with
 | 0,hi=>exact h 0 hi
 | 1,hi=>exact h 1 hi
 | 2,hi=>exact h 2 hi
 | 3,hi=>exact h 3 hi
 | 4,hi =>
  rcases f c hi with h2 | h2
  ·exact h 4 h2
  ·omega
theorem JC (ts:List ar) (ls:List Lk) (cpu:Int):lx ts ls cpu = -1∨∃ (k:Nat) (t:ar),lx ts ls cpu=(k:Int) /\ k < ts.length /\ ts[k]?=some t:=by
 unfold lx
 rcases zw ts (sV ts ls cpu) ts.length (Nat.le_refl _) with h | ⟨j,t,h1,h2,h3,_⟩
 ·exact .inl h.1
 ·exact .inr ⟨j,t,h1,h2,h3⟩
set_option linter.unusedSimpArgs false in
set_option maxHeartbeats 1000000 in
theorem Jx {w:World} {lo:Nat} {v:Sv} {vs:List Lv} {s:Sy} (h:ay w lo v vs s) (hl:lo <= w.heap.size) (hz:bE s <= 2000000) (hq0:0 <= s.seq) (hq1:s.seq <= 2000000) (cpu:Int) :
  Calls Tryz.prog 180 #[.agg (ae s v),.int .i64 cpu] w fun e w'=>∃ v' vs',e = .returned (.agg (ae (fI s cpu) v')) /\ Goes w lo v vs w' v' vs' (fI s cpu):=by
 obtain ⟨⟨ta,tn,ag⟩,⟨la,ln,ah⟩,⟨ga,gn,ai⟩,⟨fa,fn,aj⟩,⟨ra,rn,ao⟩⟩:=v
 have FN:Hid (∀ i b,aX ⟨⟨ta,tn,ag⟩,⟨la,ln,ah⟩,⟨ga,gn,ai⟩,⟨fa,fn,aj⟩,⟨ra,rn,ao⟩⟩ vs i b->b < w.heap.size):=fun i b hb=>(h.aG hb).2
 have Hrl:Hid (s.trace.length <= 2000000):=by show _ <= _;unfold bE at hz;omega
 have ON:=h.on hz
 have Hn:Hid (s.tasks.length=tn):=ON.lay.tl
 have kZ:aa w ((w.alloc (.cells (ae s ⟨⟨ta,tn,ag⟩,⟨la,ln,ah⟩,⟨ga,gn,ai⟩,⟨fa,fn,aj⟩,⟨ra,rn,ao⟩⟩) 30)).alloc (.cells zc 30)):=((aa.refl w).alloc _).alloc _
 have AI:Hid (aN w lo ⟨⟨ta,tn,ag⟩,⟨la,ln,ah⟩,⟨ga,gn,ai⟩,⟨fa,fn,aj⟩,⟨ra,rn,ao⟩⟩ vs ((w.alloc (.cells (ae s ⟨⟨ta,tn,ag⟩,⟨la,ln,ah⟩,⟨ga,gn,ai⟩,⟨fa,fn,aj⟩,⟨ra,rn,ao⟩⟩) 30)).alloc (.cells zc 30)) w.heap.size ⟨⟨ta,tn,ag⟩,⟨la,ln,ah⟩,⟨ga,gn,ai⟩,⟨fa,fn,aj⟩,⟨ra,rn,ao⟩⟩ vs s):=(aN.start h hl).keeps ((aa.refl _).alloc _)
 have R0:Hid (aq ((w.alloc (.cells (ae s ⟨⟨ta,tn,ag⟩,⟨la,ln,ah⟩,⟨ga,gn,ai⟩,⟨fa,fn,aj⟩,⟨ra,rn,ao⟩⟩) 30)).alloc (.cells zc 30)) (w.heap.size+1) zc):=by
  have:=aq.new (w.alloc (.cells (ae s ⟨⟨ta,tn,ag⟩,⟨la,ln,ah⟩,⟨ga,gn,ai⟩,⟨fa,fn,aj⟩,⟨ra,rn,ao⟩⟩) 30)) zc 30
  show aq _ _ _
  simpa using this
 have FR:Hid (∀ i,¬ aX ⟨⟨ta,tn,ag⟩,⟨la,ln,ah⟩,⟨ga,gn,ai⟩,⟨fa,fn,aj⟩,⟨ra,rn,ao⟩⟩ vs i (w.heap.size+1)):=fun i hi=>by have:=FN.out i _ hi;omega
 have HS:Hid (aA ((w.alloc (.cells (ae s ⟨⟨ta,tn,ag⟩,⟨la,ln,ah⟩,⟨ga,gn,ai⟩,⟨fa,fn,aj⟩,⟨ra,rn,ao⟩⟩) 30)).alloc (.cells zc 30)) ⟨⟨ta,tn,ag⟩,⟨la,ln,ah⟩,⟨ga,gn,ai⟩,⟨fa,fn,aj⟩,⟨ra,rn,ao⟩⟩ s):=ON.keeps kZ
 clear h hz ON
 go_enter Tryz.func180,Tryz.ntmps180
 go_wp2_with fail
 change Calls _ _ _ ((w.alloc (.cells (ae s ⟨⟨ta,tn,ag⟩,⟨la,ln,ah⟩,⟨ga,gn,ai⟩,⟨fa,fn,aj⟩,⟨ra,rn,ao⟩⟩) 30)).alloc (.cells zc 30)) _
 generalize (w.alloc (.cells (ae s ⟨⟨ta,tn,ag⟩,⟨la,ln,ah⟩,⟨ga,gn,ai⟩,⟨fa,fn,aj⟩,⟨ra,rn,ao⟩⟩) 30)).alloc (.cells zc 30)=Z at *
 refine (CJ (⟨HS.out.gF,HS.out.gx⟩:Two Z ta tn ag s.tasks la ln ah s.ak) cpu).mono ?_
 rintro e w1 ⟨rfl,k1⟩
 have G1:Hid (aN w lo ⟨⟨ta,tn,ag⟩,⟨la,ln,ah⟩,⟨ga,gn,ai⟩,⟨fa,fn,aj⟩,⟨ra,rn,ao⟩⟩ vs w1 w.heap.size ⟨⟨ta,tn,ag⟩,⟨la,ln,ah⟩,⟨ga,gn,ai⟩,⟨fa,fn,aj⟩,⟨ra,rn,ao⟩⟩ vs s):=AI.out.keeps k1
 have R1:Hid (aq w1 (w.heap.size+1) zc):=R0.out.keeps k1
 have S1:Hid (aA w1 ⟨⟨ta,tn,ag⟩,⟨la,ln,ah⟩,⟨ga,gn,ai⟩,⟨fa,fn,aj⟩,⟨ra,rn,ao⟩⟩ s):=HS.out.keeps k1
 clear AI R0 HS k1 kZ
 rcases JC s.tasks s.ak cpu with hp | ⟨k,t,hp,hk,ht⟩
 ·have HT:Hid (fI s cpu={ (s:Sy) with trace:=s.trace++[⟨cpu,0,0⟩] }):=by show _=_;unfold fI;rw [hp];rfl
  rw [hp]
  go_upto_region 11 with fail
  have GX:Hid (aN w lo ⟨⟨ta,tn,ag⟩,⟨la,ln,ah⟩,⟨ga,gn,ai⟩,⟨fa,fn,aj⟩,⟨ra,rn,ao⟩⟩ vs (w1.alloc (.cells #[.int .i64 cpu,.int .i64 0,.int .i64 0] 104)) w.heap.size ⟨⟨ta,tn,ag⟩,⟨la,ln,ah⟩,⟨ga,gn,ai⟩,⟨fa,fn,aj⟩,⟨ra,rn,ao⟩⟩ vs s):=G1.out.keeps ((aa.refl _).alloc _)
  have TX:Hid (aq (w1.alloc (.cells #[.int .i64 cpu,.int .i64 0,.int .i64 0] 104)) w1.heap.size (dX ⟨cpu,0,0⟩)):=aq.new _ _ _
  have RX:Hid (aq (w1.alloc (.cells #[.int .i64 cpu,.int .i64 0,.int .i64 0] 104)) (w.heap.size+1) zc):=R1.out.keeps ((aa.refl _).alloc _)
  clear G1 R1 S1
  generalize w1.alloc (.cells #[.int .i64 cpu,.int .i64 0,.int .i64 0] 104)=X at *
  generalize w1.heap.size=jw at *
  obtain ⟨_,o1,o2⟩:=GX.out.var.box
  dsimp only [ae] at o1
  obtain ⟨_,n1,n2⟩:=TX.out
  go_wp2_with (at_builtin;(refine qc5 rfl _ _ 28 rfl lo 104 (.agg (dX Tn.zero)) 3 24 dX Tryz.underlying28 (by kernel_rfl) rfl (by decide) iv nT _ s.trace rfl (GX.out.var.own.r.keeps ((aa.refl _).alloc _)) (by have:=GX.out.var.fu;have:=GX.out.var.box.lt;simp;omega) (⟨cpu,0,0⟩:Tn) _ 1 (aq.new _ _ _) rfl ?c1 ?c2 ?_))
  case c1=>have:=Hrl.out;unfold maxLen;omega
  case c2=>have:=Hrl.out;omega
  intro v6 w6 o6 g6 f6
  obtain ⟨a6,c6,e6⟩:=o6.form iv
  obtain ⟨m6,jg⟩:∃ m,Hid ((s.trace++[(⟨cpu,0,0⟩:Tn)]).length=m):=⟨_,rfl⟩
  rw [jg.out] at e6
  subst e6
  have kg:∀ q,(Value.slice a6 m6 c6).ownBlock=some q->(Value.slice ra rn ao).ownBlock=some q∨X.heap.size <= q:=fun q hq=>(f6 q hq).imp id (fun e=>by rw [e];simp)
  have GY:Hid (aN w lo ⟨⟨ta,tn,ag⟩,⟨la,ln,ah⟩,⟨ga,gn,ai⟩,⟨fa,fn,aj⟩,⟨ra,rn,ao⟩⟩ vs (w6.setCell ⟨w.heap.size,8,none⟩ (.slice a6 m6 c6)) w.heap.size ⟨⟨ta,tn,ag⟩,⟨la,ln,ah⟩,⟨ga,gn,ai⟩,⟨fa,fn,aj⟩,⟨a6,m6,c6⟩⟩ vs { (s:Sy) with trace:=s.trace++[(⟨cpu,0,0⟩:Tn)] }):=GX.out.trace ((aa.refl X).alloc _) (x:=⟨a6,m6,c6⟩) o6 g6 (fun q hq=>(f6 q hq).imp id (fun e=>by rw [e];simp))
  have B6:aq w6 w.heap.size (ae (s:Sy) ⟨⟨ta,tn,ag⟩,⟨la,ln,ah⟩,⟨ga,gn,ai⟩,⟨fa,fn,aj⟩,⟨ra,rn,ao⟩⟩):=(GX.out.var.box.keeps ((aa.refl X).alloc _)).grown g6 (fun q e e2=>GX.out.var.far 4 (by rw [<- e2];exact e))
  have R6:aq w6 (w.heap.size+1) zc:=(RX.out.keeps ((aa.refl X).alloc _)).grown g6 (fun q e e2=>FR.out 4 (by rw [<- e2];exact e))
  have qE:Hid (∀ i,¬ aX ⟨⟨ta,tn,ag⟩,⟨la,ln,ah⟩,⟨ga,gn,ai⟩,⟨fa,fn,aj⟩,⟨a6,m6,c6⟩⟩ vs i (w.heap.size+1)):=vk FR.out kg RX.out.lt
  have R7:Hid (aq (w6.setCell ⟨w.heap.size,8,none⟩ (.slice a6 m6 c6)) (w.heap.size+1) zc):=R6.far (by omega) _
  obtain ⟨_,p1,p2⟩:=B6
  obtain ⟨_,r1,r2⟩:=R6
  dsimp only [ae] at p1
  clear o1 o2 n1 n2 o6 g6 f6 kg GX TX RX FR
  go_wp2
  have GZ:=GY.out.elsewhere qE.out (by omega) (by omega) (ae ({ (s:Sy) with trace:=s.trace++[(⟨cpu,0,0⟩:Tn)] }:Sy) ⟨⟨ta,tn,ag⟩,⟨la,ln,ah⟩,⟨ga,gn,ai⟩,⟨fa,fn,aj⟩,⟨a6,m6,c6⟩⟩).toList 0
  have D:=R7.out.putC (ae ({ (s:Sy) with trace:=s.trace++[(⟨cpu,0,0⟩:Tn)] }:Sy) ⟨⟨ta,tn,ag⟩,⟨la,ln,ah⟩,⟨ga,gn,ai⟩,⟨fa,fn,aj⟩,⟨a6,m6,c6⟩⟩).toList rfl
  change bodyPost _ _ _ _ _ (putC (w6.setCell ⟨w.heap.size,8,none⟩ (.slice a6 m6 c6)) (w.heap.size+1) 0 (ae ({ (s:Sy) with trace:=s.trace++[(⟨cpu,0,0⟩:Tn)] }:Sy) ⟨⟨ta,tn,ag⟩,⟨la,ln,ah⟩,⟨ga,gn,ai⟩,⟨fa,fn,aj⟩,⟨a6,m6,c6⟩⟩).toList)
  generalize putC (w6.setCell ⟨w.heap.size,8,none⟩ (.slice a6 m6 c6)) (w.heap.size+1) 0 (ae ({ (s:Sy) with trace:=s.trace++[(⟨cpu,0,0⟩:Tn)] }:Sy) ⟨⟨ta,tn,ag⟩,⟨la,ln,ah⟩,⟨ga,gn,ai⟩,⟨fa,fn,aj⟩,⟨a6,m6,c6⟩⟩).toList=Q at D GZ ⊢
  exact bodyPost_ret (v := .agg (ae ({ (s:Sy) with trace:=s.trace++[(⟨cpu,0,0⟩:Tn)] }:Sy) ⟨⟨ta,tn,ag⟩,⟨la,ln,ah⟩,⟨ga,gn,ai⟩,⟨fa,fn,aj⟩,⟨a6,m6,c6⟩⟩)) (by simp [results,Tryz.results180,go_sem,D.cells]) rfl ⟨⟨⟨ta,tn,ag⟩,⟨la,ln,ah⟩,⟨ga,gn,ai⟩,⟨fa,fn,aj⟩,⟨a6,m6,c6⟩⟩,by first | (rw [HT.out];done) | (rw [HT.out];rfl),vs,by rw [HT.out];exact GZ.goes⟩
 ·have qF:=G1.out
  obtain ⟨rb,hrb⟩:=qF.var.own.aW hk
  dsimp only at hrb
  subst hrb
  obtain ⟨z1,z2⟩:=qF.var.own.aJ (rb:=rb) rfl ht
  have kj:rb < w1.heap.size:=(qF.var.own.aG (i:=0) (b:=rb) rfl).2
  have zr:∀ w',aa w1 w'->∀ j,j < 14->w'.cell? ⟨rb,k*14+j,none⟩=(tc t)[j]?:=fun w' kk j hj=>(kk.cells rb _ kj).trans (z1 j hj)
  have JD:∀ w',aa w1 w'->w'.cell? ⟨rb,k*14,none⟩=some (.int .i64 t.no):=fun w' kk=>zr w' kk 0 (by omega)
  have hkn:(k:Int) < (tn:Int):=by have:=Hn.out;omega
  obtain ⟨xe,AJ⟩:∃ x,Hid (ie s.tasks s.ak t.no=x):=⟨_,rfl⟩
  obtain ⟨N1,nF⟩:∃ N,Hid (kI t=N):=⟨_,rfl⟩
  obtain ⟨N2,mg⟩:∃ N,Hid (lX N1=N):=⟨_,rfl⟩
  obtain ⟨NT,iQ⟩:∃ N,Hid (jm N2 (s.seq+1)=N):=⟨_,rfl⟩
  obtain ⟨NB,qG⟩:∃ N,Hid (jn N2 (s.seq+1)=N):=⟨_,rfl⟩
  have HT:Hid (fI s cpu={ (s:Sy) with seq:=if NB then s.seq+1 else s.seq,tasks:=s.tasks.set k NT,trace:=s.trace++[⟨cpu,t.no,xe⟩] }):=by
   show _=_
   unfold fI rj xq xr
   rw [hp,if_neg (by omega),Int.toNat_natCast,List.getD_eq_getElem?_getD,ht,Option.getD_some,nF.out,mg.out,iQ.out,qG.out,AJ.out]
  have hw1:IntKind.i64.wrap (s.seq+1)=s.seq+1:=Go.IntWalk.i64_in _ (by omega)
  have HK:Hid (k < s.tasks.length):=hk
  have AK:Hid (s.tasks[k]?=some t):=ht
  have b1:∀ w',aa w1 w'->∀ j,w'.cell? ⟨w.heap.size,j,none⟩=(ae s ⟨⟨some ⟨rb,0,none⟩,tn,ag⟩,⟨la,ln,ah⟩,⟨ga,gn,ai⟩,⟨fa,fn,aj⟩,⟨ra,rn,ao⟩⟩)[j]?:=fun w' kk=>(qF.var.box.keeps kk).cells
  dsimp only [ae] at b1
  rw [hp]
  have hsb:w.heap.size < w1.heap.size:=G1.out.var.box.lt
  have hs1:w.heap.size≠w1.heap.size:=by omega
  have hs2:w.heap.size≠w1.heap.size+1:=by omega
  clear hp hk ht z1 z2 qF
  go_upto_region 6 with fail
  go_wp2_with fail
  clear hs1 hs2
  change Calls _ _ _ ((w1.alloc (.cells #[.int .i64 cpu,.int .i64 t.no,.int .i64 0] 104)).alloc (.cells (tc t) 43)) _
  have kY:aa w1 ((w1.alloc (.cells #[.int .i64 cpu,.int .i64 t.no,.int .i64 0] 104)).alloc (.cells (tc t) 43)):=((aa.refl _).alloc _).alloc _
  have TY:Hid (aq ((w1.alloc (.cells #[.int .i64 cpu,.int .i64 t.no,.int .i64 0] 104)).alloc (.cells (tc t) 43)) w1.heap.size (dX ⟨cpu,t.no,0⟩)):=(aq.new _ _ _).alloc _
  have BY:Hid (aq ((w1.alloc (.cells #[.int .i64 cpu,.int .i64 t.no,.int .i64 0] 104)).alloc (.cells (tc t) 43)) (w1.heap.size+1) (tc t)):=by
   have:=aq.new (w1.alloc (.cells #[.int .i64 cpu,.int .i64 t.no,.int .i64 0] 104)) (tc t) 43
   show aq _ _ _
   simpa using this
  have FT:Hid (∀ i,¬ aX ⟨⟨some ⟨rb,0,none⟩,tn,ag⟩,⟨la,ln,ah⟩,⟨ga,gn,ai⟩,⟨fa,fn,aj⟩,⟨ra,rn,ao⟩⟩ vs i w1.heap.size):=fun i hi=>by have:=(G1.out.var.own.aG hi).2;omega
  have hrx:w.heap.size+1 < w1.heap.size:=R1.out.lt
  generalize (w1.alloc (.cells #[.int .i64 cpu,.int .i64 t.no,.int .i64 0] 104)).alloc (.cells (tc t) 43)=Y at *
  generalize htb:w1.heap.size+1=tb at *
  generalize htn:w1.heap.size=jw at *
  refine (vU (S1.out.keeps kY).gF (S1.out.keeps kY).gx t.no).mono ?_
  rintro e w2 ⟨rfl,k2⟩
  rw [AJ.out]
  have K2:aa w1 w2:=kY.trans k2
  obtain ⟨_,q1,q2⟩:=TY.out.keeps k2
  go_upto_region 7 with fail
  have AM:Hid (aq (w2.setCell ⟨jw,2,none⟩ (.int .i64 xe)) jw (dX ⟨cpu,t.no,xe⟩)):=(TY.out.keeps k2).set 2 (by simp) _
  have AO:Hid (aq (w2.setCell ⟨jw,2,none⟩ (.int .i64 xe)) tb (tc t)):=(BY.out.keeps k2).far (by omega) _
  have AQ:Hid (aq (w2.setCell ⟨jw,2,none⟩ (.int .i64 xe)) (w.heap.size+1) zc):=(R1.out.keeps K2).far (by omega) _
  have r6:Hid (aN w lo ⟨⟨some ⟨rb,0,none⟩,tn,ag⟩,⟨la,ln,ah⟩,⟨ga,gn,ai⟩,⟨fa,fn,aj⟩,⟨ra,rn,ao⟩⟩ vs (w2.setCell ⟨jw,2,none⟩ (.int .i64 xe)) w.heap.size ⟨⟨some ⟨rb,0,none⟩,tn,ag⟩,⟨la,ln,ah⟩,⟨ga,gn,ai⟩,⟨fa,fn,aj⟩,⟨ra,rn,ao⟩⟩ vs s):=(G1.out.keeps K2).elsewhere FT.out (by omega) (by omega) [.int .i64 xe] 2
  clear q1 q2 TY BY R1 G1 S1 K2 k2 kY b1 zr JD
  generalize w2.setCell ⟨jw,2,none⟩ (.int .i64 xe)=X1 at *
  have c0:∀ w',aa X1 w'->∀ j,w'.cell? ⟨tb,j,none⟩=(tc t)[j]?:=fun w' kk=>(AO.out.keeps kk).cells
  have c1:∀ w',aa X1 w'->∀ j,w'.cell? ⟨w.heap.size,j,none⟩=(ae s ⟨⟨some ⟨rb,0,none⟩,tn,ag⟩,⟨la,ln,ah⟩,⟨ga,gn,ai⟩,⟨fa,fn,aj⟩,⟨ra,rn,ao⟩⟩)[j]?:=fun w' kk=>(r6.out.var.box.keeps kk).cells
  dsimp only [ae] at c1
  go_cut [8,9] (fun c8 c9 wx=>∃ nb,c8 = .pointer (some ⟨nb,0,none⟩) /\ c9 = .bool NB /\ X1.heap.size <= nb /\ Hid (aq wx nb (tc NT)) /\ aa X1 wx)
  case first =>
   refine wp_region_held_drew (S:=fun w'=>aa X1 w') (by kernel_rfl) ?_ (fun hHeld => ?_)
   ·exact (aa.refl X1).drew
   refine ad.go [0,3,4,5] ?_
   iterate 4 (refine aM (h := ?_);try simp only [au])
   refine ad.nil ?_
   refine wpAnyH_ready (rs:=[1,10]) (by kernel_rfl) (by simp) ?_
   refine AllReadyH.cons (by simp only [List.getElem?_toArray,List.getElem?_cons_succ,List.getElem?_cons_zero];rfl) (fun K hK => ?_) (AllReadyH.cons (by simp only [List.getElem?_toArray,List.getElem?_cons_succ,List.getElem?_cons_zero];rfl) (fun K hK => ?_) AllReadyH.nil)
   ·go_simp
    (go_at_call 206;refine (wO t _).mono ?_;rintro e w3 ⟨rfl,k3⟩;rw [nF.out])
    try go_wp2_with fail
    refine hK.out _ _ ?_ fun hHeld => ?_
    ·exact aa.trans (by assumption) (by assumption)
    clear hK K
    try simp only [au]
    refine wpAnyH_ready (rs:=[2,10]) (by kernel_rfl) (by simp) ?_
    refine AllReadyH.cons (by simp only [List.getElem?_toArray,List.getElem?_cons_succ,List.getElem?_cons_zero];rfl) (fun K hK => ?_) (AllReadyH.cons (by simp only [List.getElem?_toArray,List.getElem?_cons_succ,List.getElem?_cons_zero];rfl) (fun K hK => ?_) AllReadyH.nil)
    ·go_simp
     (go_at_call 205;refine (tE N1 _).mono ?_;rintro e w4 ⟨rfl,k4⟩;rw [mg.out])
     try go_wp2_with fail
     refine hK.out _ _ ?_ fun hHeld => ?_
     ·exact aa.trans (by assumption) (by assumption)
     clear hK K
     try simp only [au]
     refine wpAnyH_ready (rs:=[6,10]) (by kernel_rfl) (by simp) ?_
     refine AllReadyH.cons (by simp only [List.getElem?_toArray,List.getElem?_cons_succ,List.getElem?_cons_zero];rfl) (fun K hK => ?_) (AllReadyH.cons (by simp only [List.getElem?_toArray,List.getElem?_cons_succ,List.getElem?_cons_zero];rfl) (fun K hK => ?_) AllReadyH.nil)
     ·go_simp
      (go_at_call 204;refine (rk N2 (s.seq+1) _).mono ?_;rintro e w5 ⟨rfl,k5⟩;rw [iQ.out,qG.out])
      try go_wp2_with fail
      refine hK.out _ _ ?_ fun hHeld => ?_
      ·exact aa.trans (by assumption) (by assumption)
      clear hK K
      try simp only [au]
      refine ad.go [7,8,9] ?_
      iterate 3 (refine aM (h := ?_);try simp only [au])
      refine ad.nil ?_
      refine aR 10 (h:=fun K hK => ?_)
      go_simp
      try go_wp2_with fail
      refine hK.out _ _ ?_ fun hHeld => ?_
      ·exact aa.alloc (by assumption) _
      clear hK K
      try simp only [au]
      refine aR 11 (h:=fun K hK => ?_)
      have hnb:X1.heap.size <= w5.heap.size:=aa.size (by assumption:aa X1 w5)
      go_simp
      try go_wp2_with fail
      refine hK.out _ (w5.alloc (.cells (tc NT) 43)) ?_ (fun hHeld => ?_)
      ·exact aa.alloc (by assumption) _
      clear hK K
      try simp only [au]
      have hBN:Hid (aq (w5.alloc (.cells (tc NT) 43)) (w5.heap.size) (tc NT)):=aq.new _ _ _
      generalize w5.alloc (.cells (tc NT) 43)=XW at *
      refine di 12 (h := ?_)
      try simp only [au]
      refine wpAnyH_done (by kernel_rfl) ?_ _
      go_wp2_with fail
      go_meet
      exact ⟨(w5.heap.size),rfl,rfl,hnb,hBN,by assumption⟩
     ·go_simp
      try go_wp2_with fail
      refine hK.out _ _ ?_ fun hHeld => ?_
      ·exact aa.alloc (by assumption) _
      clear hK K
      try simp only [au]
      refine aR 6 (h:=fun K hK => ?_)
      go_simp
      (go_at_call 204;refine (rk N2 (s.seq+1) _).mono ?_;rintro e w5 ⟨rfl,k5⟩;rw [iQ.out,qG.out])
      try go_wp2_with fail
      refine hK.out _ _ ?_ fun hHeld => ?_
      ·exact aa.trans (by assumption) (by assumption)
      clear hK K
      try simp only [au]
      refine ad.go [7,8,9] ?_
      iterate 3 (refine aM (h := ?_);try simp only [au])
      refine ad.nil ?_
      refine aR 11 (h:=fun K hK => ?_)
      have gB:aq w5 (w4.heap.size) (tc ar.zero):=(aq.new (w4) (tc ar.zero) 43).keeps (k5)
      have gC:Hid (aq w5 (w4.heap.size) (tc ar.zero)):=gB
      obtain ⟨_,iz,iA⟩:=gB
      have hnb:X1.heap.size <= w4.heap.size:=aa.size (by assumption:aa X1 w4)
      go_simp
      try go_wp2_with fail
      refine hK.out _ (putC w5 (w4.heap.size) 0 (tc NT).toList) ?_ (fun hHeld => ?_)
      ·exact aa.putC (b:=w4.heap.size) hnb (tc NT).toList 0 (by assumption)
      clear hK K
      try simp only [au]
      have hBN:Hid (aq (putC w5 (w4.heap.size) 0 (tc NT).toList) (w4.heap.size) (tc NT)):=gC.out.putC (tc NT).toList rfl
      clear iz iA gC
      generalize putC w5 (w4.heap.size) 0 (tc NT).toList=XW at *
      refine di 12 (h := ?_)
      try simp only [au]
      refine wpAnyH_done (by kernel_rfl) ?_ _
      go_wp2_with fail
      go_meet
      exact ⟨(w4.heap.size),rfl,rfl,hnb,hBN,by assumption⟩
    ·go_simp
     try go_wp2_with fail
     refine hK.out _ _ ?_ fun hHeld => ?_
     ·exact aa.alloc (by assumption) _
     clear hK K
     try simp only [au]
     refine aR 2 (h:=fun K hK => ?_)
     go_simp
     (go_at_call 205;refine (tE N1 _).mono ?_;rintro e w4 ⟨rfl,k4⟩;rw [mg.out])
     try go_wp2_with fail
     refine hK.out _ _ ?_ fun hHeld => ?_
     ·exact aa.trans (by assumption) (by assumption)
     clear hK K
     try simp only [au]
     refine aR 6 (h:=fun K hK => ?_)
     go_simp
     (go_at_call 204;refine (rk N2 (s.seq+1) _).mono ?_;rintro e w5 ⟨rfl,k5⟩;rw [iQ.out,qG.out])
     try go_wp2_with fail
     refine hK.out _ _ ?_ fun hHeld => ?_
     ·exact aa.trans (by assumption) (by assumption)
     clear hK K
     try simp only [au]
     refine ad.go [7,8,9] ?_
     iterate 3 (refine aM (h := ?_);try simp only [au])
     refine ad.nil ?_
     refine aR 11 (h:=fun K hK => ?_)
     have gB:aq w5 (w3.heap.size) (tc ar.zero):=(aq.new (w3) (tc ar.zero) 43).keeps ((k4).trans k5)
     have gC:Hid (aq w5 (w3.heap.size) (tc ar.zero)):=gB
     obtain ⟨_,iz,iA⟩:=gB
     have hnb:X1.heap.size <= w3.heap.size:=aa.size (by assumption:aa X1 w3)
     go_simp
     try go_wp2_with fail
     refine hK.out _ (putC w5 (w3.heap.size) 0 (tc NT).toList) ?_ (fun hHeld => ?_)
     ·exact aa.putC (b:=w3.heap.size) hnb (tc NT).toList 0 (by assumption)
     clear hK K
     try simp only [au]
     have hBN:Hid (aq (putC w5 (w3.heap.size) 0 (tc NT).toList) (w3.heap.size) (tc NT)):=gC.out.putC (tc NT).toList rfl
     clear iz iA gC
     generalize putC w5 (w3.heap.size) 0 (tc NT).toList=XW at *
     refine di 12 (h := ?_)
     try simp only [au]
     refine wpAnyH_done (by kernel_rfl) ?_ _
     go_wp2_with fail
     go_meet
     exact ⟨(w3.heap.size),rfl,rfl,hnb,hBN,by assumption⟩
   ·go_simp
    try go_wp2_with fail
    refine hK.out _ _ ?_ fun hHeld => ?_
    ·exact aa.alloc (by assumption) _
    clear hK K
    try simp only [au]
    refine aR 1 (h:=fun K hK => ?_)
    go_simp
    (go_at_call 206;refine (wO t _).mono ?_;rintro e w3 ⟨rfl,k3⟩;rw [nF.out])
    try go_wp2_with fail
    refine hK.out _ _ ?_ fun hHeld => ?_
    ·exact aa.trans (by assumption) (by assumption)
    clear hK K
    try simp only [au]
    refine aR 2 (h:=fun K hK => ?_)
    go_simp
    (go_at_call 205;refine (tE N1 _).mono ?_;rintro e w4 ⟨rfl,k4⟩;rw [mg.out])
    try go_wp2_with fail
    refine hK.out _ _ ?_ fun hHeld => ?_
    ·exact aa.trans (by assumption) (by assumption)
    clear hK K
    try simp only [au]
    refine aR 6 (h:=fun K hK => ?_)
    go_simp
    (go_at_call 204;refine (rk N2 (s.seq+1) _).mono ?_;rintro e w5 ⟨rfl,k5⟩;rw [iQ.out,qG.out])
    try go_wp2_with fail
    refine hK.out _ _ ?_ fun hHeld => ?_
    ·exact aa.trans (by assumption) (by assumption)
    clear hK K
    try simp only [au]
    refine ad.go [7,8,9] ?_
    iterate 3 (refine aM (h := ?_);try simp only [au])
    refine ad.nil ?_
    refine aR 11 (h:=fun K hK => ?_)
    have gB:aq w5 (X1.heap.size) (tc ar.zero):=(aq.new (X1.drew) (tc ar.zero) 43).keeps (((k3).trans k4).trans k5)
    have gC:Hid (aq w5 (X1.heap.size) (tc ar.zero)):=gB
    obtain ⟨_,iz,iA⟩:=gB
    have hnb:X1.heap.size <= X1.heap.size:=Nat.le_refl _
    go_simp
    try go_wp2_with fail
    refine hK.out _ (putC w5 (X1.heap.size) 0 (tc NT).toList) ?_ (fun hHeld => ?_)
    ·exact aa.putC (b:=X1.heap.size) hnb (tc NT).toList 0 (by assumption)
    clear hK K
    try simp only [au]
    have hBN:Hid (aq (putC w5 (X1.heap.size) 0 (tc NT).toList) (X1.heap.size) (tc NT)):=gC.out.putC (tc NT).toList rfl
    clear iz iA gC
    generalize putC w5 (X1.heap.size) 0 (tc NT).toList=XW at *
    refine di 12 (h := ?_)
    try simp only [au]
    refine wpAnyH_done (by kernel_rfl) ?_ _
    go_wp2_with fail
    go_meet
    exact ⟨(X1.heap.size),rfl,rfl,hnb,hBN,by assumption⟩
  case rest =>
  obtain ⟨nb,rfl,rfl,hnb,BN,KX⟩:=hcut
  have jR:Hid (aN w lo ⟨⟨some ⟨rb,0,none⟩,tn,ag⟩,⟨la,ln,ah⟩,⟨ga,gn,ai⟩,⟨fa,fn,aj⟩,⟨ra,rn,ao⟩⟩ vs wc w.heap.size ⟨⟨some ⟨rb,0,none⟩,tn,ag⟩,⟨la,ln,ah⟩,⟨ga,gn,ai⟩,⟨fa,fn,aj⟩,⟨ra,rn,ao⟩⟩ vs s):=r6.out.keeps KX
  have nG:Hid (aq wc jw (dX ⟨cpu,t.no,xe⟩)):=AM.out.keeps KX
  have nH:Hid (aq wc (w.heap.size+1) zc):=AQ.out.keeps KX
  have JE:nb≠w.heap.size:=by have:=r6.out.var.box.lt;omega
  clear r6 AM AQ AO c0 c1 KX
  cases NB
  ·simp only [Bool.false_eq_true,if_false] at HT
   have zz:=jR.out.var.own.aJ (rb:=rb) rfl (k:=k) (t:=t) AK.out
   obtain ⟨z1,z2⟩:=zz
   have y0:wc.cell? ⟨rb,k*14,none⟩=some (.int .i64 t.no):=z1 0 (by omega)
   obtain ⟨_,o1,o2⟩:=jR.out.var.box
   dsimp only [ae] at o1
   obtain ⟨_,n1,n2⟩:=BN.out
   go_upto_region 11 with fail
   have nI:rb≠jw:=fun e=>FT.out 0 (by rw [<- e];rfl)
   have nJ:rb≠w.heap.size+1:=fun e=>FR.out 0 (by rw [<- e];rfl)
   have GX:Hid (aN w lo ⟨⟨some ⟨rb,0,none⟩,tn,ag⟩,⟨la,ln,ah⟩,⟨ga,gn,ai⟩,⟨fa,fn,aj⟩,⟨ra,rn,ao⟩⟩ vs (putC wc rb (k*14) (tc NT).toList) w.heap.size ⟨⟨some ⟨rb,0,none⟩,tn,ag⟩,⟨la,ln,ah⟩,⟨ga,gn,ai⟩,⟨fa,fn,aj⟩,⟨ra,rn,ao⟩⟩ vs { s with tasks:=s.tasks.set k NT }):=jR.out.task (rb:=rb) rfl HK.out NT
   have TX:Hid (aq (putC wc rb (k*14) (tc NT).toList) jw (dX ⟨cpu,t.no,xe⟩)):=aq.aT nI _ _ nG.out
   have RX:Hid (aq (putC wc rb (k*14) (tc NT).toList) (w.heap.size+1) zc):=aq.aT nJ _ _ nH.out
   change Code.wp _ _ _ _ (putC wc rb (k*14) (tc NT).toList)
   clear z1 z2 y0 o1 o2 n1 n2 jR nG nH BN
   generalize putC wc rb (k*14) (tc NT).toList=X at *
   obtain ⟨_,o1,o2⟩:=GX.out.var.box
   dsimp only [ae] at o1
   obtain ⟨_,n1,n2⟩:=TX.out
   go_wp2_with (at_builtin;(refine qc5 rfl _ _ 28 rfl lo 104 (.agg (dX Tn.zero)) 3 24 dX Tryz.underlying28 (by kernel_rfl) rfl (by decide) iv nT _ s.trace rfl (GX.out.var.own.r.keeps ((aa.refl _).alloc _)) (by have:=GX.out.var.fu;have:=GX.out.var.box.lt;simp;omega) (⟨cpu,t.no,xe⟩:Tn) _ 1 (aq.new _ _ _) rfl ?c1 ?c2 ?_))
   case c1=>have:=Hrl.out;unfold maxLen;omega
   case c2=>have:=Hrl.out;omega
   intro v6 w6 o6 g6 f6
   obtain ⟨a6,c6,e6⟩:=o6.form iv
   obtain ⟨m6,jg⟩:∃ m,Hid ((s.trace++[(⟨cpu,t.no,xe⟩:Tn)]).length=m):=⟨_,rfl⟩
   rw [jg.out] at e6
   subst e6
   have kg:∀ q,(Value.slice a6 m6 c6).ownBlock=some q->(Value.slice ra rn ao).ownBlock=some q∨X.heap.size <= q:=fun q hq=>(f6 q hq).imp id (fun e=>by rw [e];simp)
   have GY:Hid (aN w lo ⟨⟨some ⟨rb,0,none⟩,tn,ag⟩,⟨la,ln,ah⟩,⟨ga,gn,ai⟩,⟨fa,fn,aj⟩,⟨ra,rn,ao⟩⟩ vs (w6.setCell ⟨w.heap.size,8,none⟩ (.slice a6 m6 c6)) w.heap.size ⟨⟨some ⟨rb,0,none⟩,tn,ag⟩,⟨la,ln,ah⟩,⟨ga,gn,ai⟩,⟨fa,fn,aj⟩,⟨a6,m6,c6⟩⟩ vs { ({ s with tasks:=s.tasks.set k NT }:Sy) with trace:=s.trace++[(⟨cpu,t.no,xe⟩:Tn)] }):=GX.out.trace ((aa.refl X).alloc _) (x:=⟨a6,m6,c6⟩) o6 g6 (fun q hq=>(f6 q hq).imp id (fun e=>by rw [e];simp))
   have B6:aq w6 w.heap.size (ae ({ s with tasks:=s.tasks.set k NT }:Sy) ⟨⟨some ⟨rb,0,none⟩,tn,ag⟩,⟨la,ln,ah⟩,⟨ga,gn,ai⟩,⟨fa,fn,aj⟩,⟨ra,rn,ao⟩⟩):=(GX.out.var.box.keeps ((aa.refl X).alloc _)).grown g6 (fun q e e2=>GX.out.var.far 4 (by rw [<- e2];exact e))
   have R6:aq w6 (w.heap.size+1) zc:=(RX.out.keeps ((aa.refl X).alloc _)).grown g6 (fun q e e2=>FR.out 4 (by rw [<- e2];exact e))
   have qE:Hid (∀ i,¬ aX ⟨⟨some ⟨rb,0,none⟩,tn,ag⟩,⟨la,ln,ah⟩,⟨ga,gn,ai⟩,⟨fa,fn,aj⟩,⟨a6,m6,c6⟩⟩ vs i (w.heap.size+1)):=vk FR.out kg RX.out.lt
   have R7:Hid (aq (w6.setCell ⟨w.heap.size,8,none⟩ (.slice a6 m6 c6)) (w.heap.size+1) zc):=R6.far (by omega) _
   obtain ⟨_,p1,p2⟩:=B6
   obtain ⟨_,r1,r2⟩:=R6
   dsimp only [ae] at p1
   clear o1 o2 n1 n2 o6 g6 f6 kg GX TX RX FR
   go_wp2
   have GZ:=GY.out.elsewhere qE.out (by omega) (by omega) (ae ({ ({ s with tasks:=s.tasks.set k NT }:Sy) with trace:=s.trace++[(⟨cpu,t.no,xe⟩:Tn)] }:Sy) ⟨⟨some ⟨rb,0,none⟩,tn,ag⟩,⟨la,ln,ah⟩,⟨ga,gn,ai⟩,⟨fa,fn,aj⟩,⟨a6,m6,c6⟩⟩).toList 0
   have D:=R7.out.putC (ae ({ ({ s with tasks:=s.tasks.set k NT }:Sy) with trace:=s.trace++[(⟨cpu,t.no,xe⟩:Tn)] }:Sy) ⟨⟨some ⟨rb,0,none⟩,tn,ag⟩,⟨la,ln,ah⟩,⟨ga,gn,ai⟩,⟨fa,fn,aj⟩,⟨a6,m6,c6⟩⟩).toList rfl
   change bodyPost _ _ _ _ _ (putC (w6.setCell ⟨w.heap.size,8,none⟩ (.slice a6 m6 c6)) (w.heap.size+1) 0 (ae ({ ({ s with tasks:=s.tasks.set k NT }:Sy) with trace:=s.trace++[(⟨cpu,t.no,xe⟩:Tn)] }:Sy) ⟨⟨some ⟨rb,0,none⟩,tn,ag⟩,⟨la,ln,ah⟩,⟨ga,gn,ai⟩,⟨fa,fn,aj⟩,⟨a6,m6,c6⟩⟩).toList)
   generalize putC (w6.setCell ⟨w.heap.size,8,none⟩ (.slice a6 m6 c6)) (w.heap.size+1) 0 (ae ({ ({ s with tasks:=s.tasks.set k NT }:Sy) with trace:=s.trace++[(⟨cpu,t.no,xe⟩:Tn)] }:Sy) ⟨⟨some ⟨rb,0,none⟩,tn,ag⟩,⟨la,ln,ah⟩,⟨ga,gn,ai⟩,⟨fa,fn,aj⟩,⟨a6,m6,c6⟩⟩).toList=Q at D GZ ⊢
   exact bodyPost_ret (v := .agg (ae ({ ({ s with tasks:=s.tasks.set k NT }:Sy) with trace:=s.trace++[(⟨cpu,t.no,xe⟩:Tn)] }:Sy) ⟨⟨some ⟨rb,0,none⟩,tn,ag⟩,⟨la,ln,ah⟩,⟨ga,gn,ai⟩,⟨fa,fn,aj⟩,⟨a6,m6,c6⟩⟩)) (by simp [results,Tryz.results180,go_sem,D.cells]) rfl ⟨⟨⟨some ⟨rb,0,none⟩,tn,ag⟩,⟨la,ln,ah⟩,⟨ga,gn,ai⟩,⟨fa,fn,aj⟩,⟨a6,m6,c6⟩⟩,by first | (rw [HT.out];done) | (rw [HT.out];rfl),vs,by rw [HT.out];exact GZ.goes⟩
  ·simp only [if_true] at HT
   obtain ⟨_,o1,o2⟩:=jR.out.var.box
   dsimp only [ae] at o1
   go_upto_region 10 with fail
   have AR:Hid (aN w lo ⟨⟨some ⟨rb,0,none⟩,tn,ag⟩,⟨la,ln,ah⟩,⟨ga,gn,ai⟩,⟨fa,fn,aj⟩,⟨ra,rn,ao⟩⟩ vs (wc.setCell ⟨w.heap.size,6,none⟩ (.int .i64 (s.seq+1))) w.heap.size ⟨⟨some ⟨rb,0,none⟩,tn,ag⟩,⟨la,ln,ah⟩,⟨ga,gn,ai⟩,⟨fa,fn,aj⟩,⟨ra,rn,ao⟩⟩ vs { s with seq:=s.seq+1 }):=jR.out.num s.now s.az (s.seq+1) s.missed (k:=6) rfl (by omega)
   have AT:Hid (aq (wc.setCell ⟨w.heap.size,6,none⟩ (.int .i64 (s.seq+1))) jw (dX ⟨cpu,t.no,xe⟩)):=nG.out.far (by omega) _
   have AU:Hid (aq (wc.setCell ⟨w.heap.size,6,none⟩ (.int .i64 (s.seq+1))) (w.heap.size+1) zc):=nH.out.far (by omega) _
   have AV:Hid (aq (wc.setCell ⟨w.heap.size,6,none⟩ (.int .i64 (s.seq+1))) nb (tc NT)):=BN.out.far (by omega) _
   clear o1 o2 jR nG nH BN
   generalize wc.setCell ⟨w.heap.size,6,none⟩ (.int .i64 (s.seq+1))=X3 at *
   have jR:=AR
   have nG:=AT
   have nH:=AU
   have BN:=AV
   clear AR AT AU AV
   have zz:=jR.out.var.own.aJ (rb:=rb) rfl (k:=k) (t:=t) AK.out
   obtain ⟨z1,z2⟩:=zz
   have y0:X3.cell? ⟨rb,k*14,none⟩=some (.int .i64 t.no):=z1 0 (by omega)
   obtain ⟨_,o1,o2⟩:=jR.out.var.box
   dsimp only [ae] at o1
   obtain ⟨_,n1,n2⟩:=BN.out
   go_upto_region 11 with fail
   have nI:rb≠jw:=fun e=>FT.out 0 (by rw [<- e];rfl)
   have nJ:rb≠w.heap.size+1:=fun e=>FR.out 0 (by rw [<- e];rfl)
   have GX:Hid (aN w lo ⟨⟨some ⟨rb,0,none⟩,tn,ag⟩,⟨la,ln,ah⟩,⟨ga,gn,ai⟩,⟨fa,fn,aj⟩,⟨ra,rn,ao⟩⟩ vs (putC X3 rb (k*14) (tc NT).toList) w.heap.size ⟨⟨some ⟨rb,0,none⟩,tn,ag⟩,⟨la,ln,ah⟩,⟨ga,gn,ai⟩,⟨fa,fn,aj⟩,⟨ra,rn,ao⟩⟩ vs { s with seq:=s.seq+1,tasks:=s.tasks.set k NT }):=jR.out.task (rb:=rb) rfl HK.out NT
   have TX:Hid (aq (putC X3 rb (k*14) (tc NT).toList) jw (dX ⟨cpu,t.no,xe⟩)):=aq.aT nI _ _ nG.out
   have RX:Hid (aq (putC X3 rb (k*14) (tc NT).toList) (w.heap.size+1) zc):=aq.aT nJ _ _ nH.out
   change Code.wp _ _ _ _ (putC X3 rb (k*14) (tc NT).toList)
   clear z1 z2 y0 o1 o2 n1 n2 jR nG nH BN
   generalize putC X3 rb (k*14) (tc NT).toList=X at *
   obtain ⟨_,o1,o2⟩:=GX.out.var.box
   dsimp only [ae] at o1
   obtain ⟨_,n1,n2⟩:=TX.out
   go_wp2_with (at_builtin;(refine qc5 rfl _ _ 28 rfl lo 104 (.agg (dX Tn.zero)) 3 24 dX Tryz.underlying28 (by kernel_rfl) rfl (by decide) iv nT _ s.trace rfl (GX.out.var.own.r.keeps ((aa.refl _).alloc _)) (by have:=GX.out.var.fu;have:=GX.out.var.box.lt;simp;omega) (⟨cpu,t.no,xe⟩:Tn) _ 1 (aq.new _ _ _) rfl ?c1 ?c2 ?_))
   case c1=>have:=Hrl.out;unfold maxLen;omega
   case c2=>have:=Hrl.out;omega
   intro v6 w6 o6 g6 f6
   obtain ⟨a6,c6,e6⟩:=o6.form iv
   obtain ⟨m6,jg⟩:∃ m,Hid ((s.trace++[(⟨cpu,t.no,xe⟩:Tn)]).length=m):=⟨_,rfl⟩
   rw [jg.out] at e6
   subst e6
   have kg:∀ q,(Value.slice a6 m6 c6).ownBlock=some q->(Value.slice ra rn ao).ownBlock=some q∨X.heap.size <= q:=fun q hq=>(f6 q hq).imp id (fun e=>by rw [e];simp)
   have GY:Hid (aN w lo ⟨⟨some ⟨rb,0,none⟩,tn,ag⟩,⟨la,ln,ah⟩,⟨ga,gn,ai⟩,⟨fa,fn,aj⟩,⟨ra,rn,ao⟩⟩ vs (w6.setCell ⟨w.heap.size,8,none⟩ (.slice a6 m6 c6)) w.heap.size ⟨⟨some ⟨rb,0,none⟩,tn,ag⟩,⟨la,ln,ah⟩,⟨ga,gn,ai⟩,⟨fa,fn,aj⟩,⟨a6,m6,c6⟩⟩ vs { ({ s with seq:=s.seq+1,tasks:=s.tasks.set k NT }:Sy) with trace:=s.trace++[(⟨cpu,t.no,xe⟩:Tn)] }):=GX.out.trace ((aa.refl X).alloc _) (x:=⟨a6,m6,c6⟩) o6 g6 (fun q hq=>(f6 q hq).imp id (fun e=>by rw [e];simp))
   have B6:aq w6 w.heap.size (ae ({ s with seq:=s.seq+1,tasks:=s.tasks.set k NT }:Sy) ⟨⟨some ⟨rb,0,none⟩,tn,ag⟩,⟨la,ln,ah⟩,⟨ga,gn,ai⟩,⟨fa,fn,aj⟩,⟨ra,rn,ao⟩⟩):=(GX.out.var.box.keeps ((aa.refl X).alloc _)).grown g6 (fun q e e2=>GX.out.var.far 4 (by rw [<- e2];exact e))
   have R6:aq w6 (w.heap.size+1) zc:=(RX.out.keeps ((aa.refl X).alloc _)).grown g6 (fun q e e2=>FR.out 4 (by rw [<- e2];exact e))
   have qE:Hid (∀ i,¬ aX ⟨⟨some ⟨rb,0,none⟩,tn,ag⟩,⟨la,ln,ah⟩,⟨ga,gn,ai⟩,⟨fa,fn,aj⟩,⟨a6,m6,c6⟩⟩ vs i (w.heap.size+1)):=vk FR.out kg RX.out.lt
   have R7:Hid (aq (w6.setCell ⟨w.heap.size,8,none⟩ (.slice a6 m6 c6)) (w.heap.size+1) zc):=R6.far (by omega) _
   obtain ⟨_,p1,p2⟩:=B6
   obtain ⟨_,r1,r2⟩:=R6
   dsimp only [ae] at p1
   clear o1 o2 n1 n2 o6 g6 f6 kg GX TX RX FR
   go_wp2
   have GZ:=GY.out.elsewhere qE.out (by omega) (by omega) (ae ({ ({ s with seq:=s.seq+1,tasks:=s.tasks.set k NT }:Sy) with trace:=s.trace++[(⟨cpu,t.no,xe⟩:Tn)] }:Sy) ⟨⟨some ⟨rb,0,none⟩,tn,ag⟩,⟨la,ln,ah⟩,⟨ga,gn,ai⟩,⟨fa,fn,aj⟩,⟨a6,m6,c6⟩⟩).toList 0
   have D:=R7.out.putC (ae ({ ({ s with seq:=s.seq+1,tasks:=s.tasks.set k NT }:Sy) with trace:=s.trace++[(⟨cpu,t.no,xe⟩:Tn)] }:Sy) ⟨⟨some ⟨rb,0,none⟩,tn,ag⟩,⟨la,ln,ah⟩,⟨ga,gn,ai⟩,⟨fa,fn,aj⟩,⟨a6,m6,c6⟩⟩).toList rfl
   change bodyPost _ _ _ _ _ (putC (w6.setCell ⟨w.heap.size,8,none⟩ (.slice a6 m6 c6)) (w.heap.size+1) 0 (ae ({ ({ s with seq:=s.seq+1,tasks:=s.tasks.set k NT }:Sy) with trace:=s.trace++[(⟨cpu,t.no,xe⟩:Tn)] }:Sy) ⟨⟨some ⟨rb,0,none⟩,tn,ag⟩,⟨la,ln,ah⟩,⟨ga,gn,ai⟩,⟨fa,fn,aj⟩,⟨a6,m6,c6⟩⟩).toList)
   generalize putC (w6.setCell ⟨w.heap.size,8,none⟩ (.slice a6 m6 c6)) (w.heap.size+1) 0 (ae ({ ({ s with seq:=s.seq+1,tasks:=s.tasks.set k NT }:Sy) with trace:=s.trace++[(⟨cpu,t.no,xe⟩:Tn)] }:Sy) ⟨⟨some ⟨rb,0,none⟩,tn,ag⟩,⟨la,ln,ah⟩,⟨ga,gn,ai⟩,⟨fa,fn,aj⟩,⟨a6,m6,c6⟩⟩).toList=Q at D GZ ⊢
   exact bodyPost_ret (v := .agg (ae ({ ({ s with seq:=s.seq+1,tasks:=s.tasks.set k NT }:Sy) with trace:=s.trace++[(⟨cpu,t.no,xe⟩:Tn)] }:Sy) ⟨⟨some ⟨rb,0,none⟩,tn,ag⟩,⟨la,ln,ah⟩,⟨ga,gn,ai⟩,⟨fa,fn,aj⟩,⟨a6,m6,c6⟩⟩)) (by simp [results,Tryz.results180,go_sem,D.cells]) rfl ⟨⟨⟨some ⟨rb,0,none⟩,tn,ag⟩,⟨la,ln,ah⟩,⟨ga,gn,ai⟩,⟨fa,fn,aj⟩,⟨a6,m6,c6⟩⟩,by first | (rw [HT.out];done) | (rw [HT.out];rfl),vs,by rw [HT.out];exact GZ.goes⟩
end Go.Proofs.YteagpjlgjfaclaaGreatDoor
