/-
  Ticks: a turn on a processor.
-/
import Derived.Test.YteagpjlgjfaclaaGreatDoorSysCopy
import Derived.Test.YteagpjlgjfaclaaGreatDoorImplTaskOk
import Derived.Test.YteagpjlgjfaclaaGreatDoorDrawTask2
import Derived.Test.YteagpjlgjfaclaaGreatDoorDueSpec
import Derived.Test.YteagpjlgjfaclaaGreatDoorFixSpec
import Derived.Test.YteagpjlgjfaclaaGreatDoorLoneLeaves
import Derived.Test.YteagpjlgjfaclaaGreatDoorLate
import Derived.Deep.Cut
namespace Go.Proofs.YteagpjlgjfaclaaGreatDoor
set_option maxRecDepth 100000
open Go.RowKit
attribute [local go_sem] aa.refl aa.alloc aa.drew aa.drewN
theorem xY {v:Sv} {vs:List Lv} {x:Rw} {c n:Nat} (h:∀ i,¬ bp v vs i c) (f:∀ q,x.val.ownBlock=some q->v.r.val.ownBlock=some q∨n <= q) (hc:c < n):∀ i,¬ bp { v with r:=x } vs i c:=by
 intro i hi
 match i,hi with
 | 0,hi=>exact h 0 hi
 | 1,hi=>exact h 1 hi
 | 2,hi=>exact h 2 hi
 | 3,hi=>exact h 3 hi
 | 4,hi =>
  rcases f c hi with h2 | h2
  ·exact h 4 h2
  ·omega
theorem OJ (ts:List ag) (ls:List Lk) (cpu:Int):qc5 ts ls cpu = -1∨∃ (k:Nat) (t:ag),qc5 ts ls cpu=(k:Int) /\ k < ts.length /\ ts[k]?=some t:=by
 unfold qc5
 rcases oI ts (vp ts ls cpu) ts.length (Nat.le_refl _) with h | ⟨j,t,h1,h2,h3,_⟩
 ·exact .inl h.1
 ·exact .inr ⟨j,t,h1,h2,h3⟩
set_option linter.unusedSimpArgs false in
set_option maxHeartbeats 1000000 in
theorem Oy {w:World} {lo:Nat} {v:Sv} {vs:List Lv} {s:Sy} (h:ay w lo v vs s) (hl:lo <= w.heap.size) (hz:bV s <= 2000000) (hq0:0 <= s.seq) (hq1:s.seq <= 2000000) (cpu:Int) :
  Calls Tryz.prog 180 #[.agg (ae s v),.int .i64 cpu] w fun e w'=>∃ v' vs',e = .returned (.agg (ae (gw s cpu) v')) /\ Goes w lo v vs w' v' vs' (gw s cpu):=by
 obtain ⟨⟨ta,tn,ak⟩,⟨la,ln,aj⟩,⟨ga,gn,ao⟩,⟨fa,fn,aq⟩,⟨ra,rn,au⟩⟩:=v
 have FN:Hid (∀ i b,bp ⟨⟨ta,tn,ak⟩,⟨la,ln,aj⟩,⟨ga,gn,ao⟩,⟨fa,fn,aq⟩,⟨ra,rn,au⟩⟩ vs i b->b < w.heap.size):=fun i b hb=>(h.aG hb).2
 have Hrl:Hid (s.trace.length <= 2000000):=by show _ <= _;unfold bV at hz;omega
 have ON:=h.on hz
 have Hn:Hid (s.tasks.length=tn):=ON.lay.tl
 have kZ:aa w ((w.alloc (.cells (ae s ⟨⟨ta,tn,ak⟩,⟨la,ln,aj⟩,⟨ga,gn,ao⟩,⟨fa,fn,aq⟩,⟨ra,rn,au⟩⟩) 30)).alloc (.cells zc 30)):=((aa.refl w).alloc _).alloc _
 have Eg:Hid (aP w lo ⟨⟨ta,tn,ak⟩,⟨la,ln,aj⟩,⟨ga,gn,ao⟩,⟨fa,fn,aq⟩,⟨ra,rn,au⟩⟩ vs ((w.alloc (.cells (ae s ⟨⟨ta,tn,ak⟩,⟨la,ln,aj⟩,⟨ga,gn,ao⟩,⟨fa,fn,aq⟩,⟨ra,rn,au⟩⟩) 30)).alloc (.cells zc 30)) w.heap.size ⟨⟨ta,tn,ak⟩,⟨la,ln,aj⟩,⟨ga,gn,ao⟩,⟨fa,fn,aq⟩,⟨ra,rn,au⟩⟩ vs s):=(aP.start h hl).keeps ((aa.refl _).alloc _)
 have R0:Hid (ai ((w.alloc (.cells (ae s ⟨⟨ta,tn,ak⟩,⟨la,ln,aj⟩,⟨ga,gn,ao⟩,⟨fa,fn,aq⟩,⟨ra,rn,au⟩⟩) 30)).alloc (.cells zc 30)) (w.heap.size+1) zc):=by
  have:=ai.new (w.alloc (.cells (ae s ⟨⟨ta,tn,ak⟩,⟨la,ln,aj⟩,⟨ga,gn,ao⟩,⟨fa,fn,aq⟩,⟨ra,rn,au⟩⟩) 30)) zc 30
  show ai _ _ _
  simpa using this
 have FR:Hid (∀ i,¬ bp ⟨⟨ta,tn,ak⟩,⟨la,ln,aj⟩,⟨ga,gn,ao⟩,⟨fa,fn,aq⟩,⟨ra,rn,au⟩⟩ vs i (w.heap.size+1)):=fun i hi=>by have:=FN.out i _ hi;omega
 have HS:Hid (aA ((w.alloc (.cells (ae s ⟨⟨ta,tn,ak⟩,⟨la,ln,aj⟩,⟨ga,gn,ao⟩,⟨fa,fn,aq⟩,⟨ra,rn,au⟩⟩) 30)).alloc (.cells zc 30)) ⟨⟨ta,tn,ak⟩,⟨la,ln,aj⟩,⟨ga,gn,ao⟩,⟨fa,fn,aq⟩,⟨ra,rn,au⟩⟩ s):=ON.keeps kZ
 clear h hz ON
 go_enter Tryz.func180,Tryz.ntmps180
 go_wp2_with fail
 change Calls _ _ _ ((w.alloc (.cells (ae s ⟨⟨ta,tn,ak⟩,⟨la,ln,aj⟩,⟨ga,gn,ao⟩,⟨fa,fn,aq⟩,⟨ra,rn,au⟩⟩) 30)).alloc (.cells zc 30)) _
 generalize (w.alloc (.cells (ae s ⟨⟨ta,tn,ak⟩,⟨la,ln,aj⟩,⟨ga,gn,ao⟩,⟨fa,fn,aq⟩,⟨ra,rn,au⟩⟩) 30)).alloc (.cells zc 30)=Z at *
 refine (H7 (⟨HS.out.gM,HS.out.gL⟩:Two Z ta tn ak s.tasks la ln aj s.af) cpu).mono ?_
 rintro e w1 ⟨rfl,k1⟩
 have G1:Hid (aP w lo ⟨⟨ta,tn,ak⟩,⟨la,ln,aj⟩,⟨ga,gn,ao⟩,⟨fa,fn,aq⟩,⟨ra,rn,au⟩⟩ vs w1 w.heap.size ⟨⟨ta,tn,ak⟩,⟨la,ln,aj⟩,⟨ga,gn,ao⟩,⟨fa,fn,aq⟩,⟨ra,rn,au⟩⟩ vs s):=Eg.out.keeps k1
 have R1:Hid (ai w1 (w.heap.size+1) zc):=R0.out.keeps k1
 have S1:Hid (aA w1 ⟨⟨ta,tn,ak⟩,⟨la,ln,aj⟩,⟨ga,gn,ao⟩,⟨fa,fn,aq⟩,⟨ra,rn,au⟩⟩ s):=HS.out.keeps k1
 clear Eg R0 HS k1 kZ
 rcases OJ s.tasks s.af cpu with hp | ⟨k,t,hp,hk,ht⟩
 ·have HT:Hid (gw s cpu={ (s:Sy) with trace:=s.trace++[⟨cpu,0,0⟩] }):=by show _=_;unfold gw;rw [hp];rfl
  rw [hp]
  go_upto_region 11 with fail
  have GX:Hid (aP w lo ⟨⟨ta,tn,ak⟩,⟨la,ln,aj⟩,⟨ga,gn,ao⟩,⟨fa,fn,aq⟩,⟨ra,rn,au⟩⟩ vs (w1.alloc (.cells #[.int .i64 cpu,.int .i64 0,.int .i64 0] 104)) w.heap.size ⟨⟨ta,tn,ak⟩,⟨la,ln,aj⟩,⟨ga,gn,ao⟩,⟨fa,fn,aq⟩,⟨ra,rn,au⟩⟩ vs s):=G1.out.keeps ((aa.refl _).alloc _)
  have TX:Hid (ai (w1.alloc (.cells #[.int .i64 cpu,.int .i64 0,.int .i64 0] 104)) w1.heap.size (eC ⟨cpu,0,0⟩)):=ai.new _ _ _
  have RX:Hid (ai (w1.alloc (.cells #[.int .i64 cpu,.int .i64 0,.int .i64 0] 104)) (w.heap.size+1) zc):=R1.out.keeps ((aa.refl _).alloc _)
  clear G1 R1 S1
  generalize w1.alloc (.cells #[.int .i64 cpu,.int .i64 0,.int .i64 0] 104)=X at *
  generalize w1.heap.size=kg at *
  obtain ⟨_,o1,o2⟩:=GX.out.var.box
  dsimp only [ae] at o1
  obtain ⟨_,n1,n2⟩:=TX.out
  go_wp2_with (at_builtin;(refine nc rfl _ _ 28 rfl lo 104 (.agg (eC Tn.zero)) 3 24 eC Tryz.underlying28 (by kernel_rfl) rfl (by decide) jc pC _ s.trace rfl (GX.out.var.own.r.keeps ((aa.refl _).alloc _)) (by have:=GX.out.var.gI;have:=GX.out.var.box.lt;simp;omega) (⟨cpu,0,0⟩:Tn) _ 1 (ai.new _ _ _) rfl ?c1 ?c2 ?_))
  case c1=>have:=Hrl.out;unfold maxLen;omega
  case c2=>have:=Hrl.out;omega
  intro v6 w6 o6 g6 f6
  obtain ⟨a6,c6,e6⟩:=o6.form jc
  obtain ⟨m6,jV⟩:∃ m,Hid ((s.trace++[(⟨cpu,0,0⟩:Tn)]).length=m):=⟨_,rfl⟩
  rw [jV.out] at e6
  subst e6
  have lC:∀ q,(Value.slice a6 m6 c6).ownBlock=some q->(Value.slice ra rn au).ownBlock=some q∨X.heap.size <= q:=fun q hq=>(f6 q hq).imp id (fun e=>by rw [e];simp)
  have GY:Hid (aP w lo ⟨⟨ta,tn,ak⟩,⟨la,ln,aj⟩,⟨ga,gn,ao⟩,⟨fa,fn,aq⟩,⟨ra,rn,au⟩⟩ vs (w6.setCell ⟨w.heap.size,8,none⟩ (.slice a6 m6 c6)) w.heap.size ⟨⟨ta,tn,ak⟩,⟨la,ln,aj⟩,⟨ga,gn,ao⟩,⟨fa,fn,aq⟩,⟨a6,m6,c6⟩⟩ vs { (s:Sy) with trace:=s.trace++[(⟨cpu,0,0⟩:Tn)] }):=GX.out.trace ((aa.refl X).alloc _) (x:=⟨a6,m6,c6⟩) o6 g6 (fun q hq=>(f6 q hq).imp id (fun e=>by rw [e];simp))
  have B6:ai w6 w.heap.size (ae (s:Sy) ⟨⟨ta,tn,ak⟩,⟨la,ln,aj⟩,⟨ga,gn,ao⟩,⟨fa,fn,aq⟩,⟨ra,rn,au⟩⟩):=(GX.out.var.box.keeps ((aa.refl X).alloc _)).grown g6 (fun q e e2=>GX.out.var.far 4 (by rw [<- e2];exact e))
  have R6:ai w6 (w.heap.size+1) zc:=(RX.out.keeps ((aa.refl X).alloc _)).grown g6 (fun q e e2=>FR.out 4 (by rw [<- e2];exact e))
  have sA:Hid (∀ i,¬ bp ⟨⟨ta,tn,ak⟩,⟨la,ln,aj⟩,⟨ga,gn,ao⟩,⟨fa,fn,aq⟩,⟨a6,m6,c6⟩⟩ vs i (w.heap.size+1)):=xY FR.out lC RX.out.lt
  have R7:Hid (ai (w6.setCell ⟨w.heap.size,8,none⟩ (.slice a6 m6 c6)) (w.heap.size+1) zc):=R6.far (by omega) _
  obtain ⟨_,p1,p2⟩:=B6
  obtain ⟨_,r1,r2⟩:=R6
  dsimp only [ae] at p1
  clear o1 o2 n1 n2 o6 g6 f6 lC GX TX RX FR
  go_wp2
  have GZ:=GY.out.elsewhere sA.out (by omega) (by omega) (ae ({ (s:Sy) with trace:=s.trace++[(⟨cpu,0,0⟩:Tn)] }:Sy) ⟨⟨ta,tn,ak⟩,⟨la,ln,aj⟩,⟨ga,gn,ao⟩,⟨fa,fn,aq⟩,⟨a6,m6,c6⟩⟩).toList 0
  have D:=R7.out.putC (ae ({ (s:Sy) with trace:=s.trace++[(⟨cpu,0,0⟩:Tn)] }:Sy) ⟨⟨ta,tn,ak⟩,⟨la,ln,aj⟩,⟨ga,gn,ao⟩,⟨fa,fn,aq⟩,⟨a6,m6,c6⟩⟩).toList rfl
  change bodyPost _ _ _ _ _ (putC (w6.setCell ⟨w.heap.size,8,none⟩ (.slice a6 m6 c6)) (w.heap.size+1) 0 (ae ({ (s:Sy) with trace:=s.trace++[(⟨cpu,0,0⟩:Tn)] }:Sy) ⟨⟨ta,tn,ak⟩,⟨la,ln,aj⟩,⟨ga,gn,ao⟩,⟨fa,fn,aq⟩,⟨a6,m6,c6⟩⟩).toList)
  generalize putC (w6.setCell ⟨w.heap.size,8,none⟩ (.slice a6 m6 c6)) (w.heap.size+1) 0 (ae ({ (s:Sy) with trace:=s.trace++[(⟨cpu,0,0⟩:Tn)] }:Sy) ⟨⟨ta,tn,ak⟩,⟨la,ln,aj⟩,⟨ga,gn,ao⟩,⟨fa,fn,aq⟩,⟨a6,m6,c6⟩⟩).toList=Q at D GZ ⊢
  exact bodyPost_ret (v := .agg (ae ({ (s:Sy) with trace:=s.trace++[(⟨cpu,0,0⟩:Tn)] }:Sy) ⟨⟨ta,tn,ak⟩,⟨la,ln,aj⟩,⟨ga,gn,ao⟩,⟨fa,fn,aq⟩,⟨a6,m6,c6⟩⟩)) (by simp [results,Tryz.results180,go_sem,D.cells]) rfl ⟨⟨⟨ta,tn,ak⟩,⟨la,ln,aj⟩,⟨ga,gn,ao⟩,⟨fa,fn,aq⟩,⟨a6,m6,c6⟩⟩,by first | (rw [HT.out];done) | (rw [HT.out];rfl),vs,by rw [HT.out];exact GZ.goes⟩
 ·have sB:=G1.out
  obtain ⟨rb,hrb⟩:=sB.var.own.bm hk
  dsimp only at hrb
  subst hrb
  obtain ⟨z1,z2⟩:=sB.var.own.aI (rb:=rb) rfl ht
  have lF:rb < w1.heap.size:=(sB.var.own.aG (i:=0) (b:=rb) rfl).2
  have zr:∀ w',aa w1 w'->∀ j,j < 14->w'.cell? ⟨rb,k*14+j,none⟩=(tc t)[j]?:=fun w' kk j hj=>(kk.cells rb _ lF).trans (z1 j hj)
  have OK:∀ w',aa w1 w'->w'.cell? ⟨rb,k*14,none⟩=some (.int .i64 t.no):=fun w' kk=>zr w' kk 0 (by omega)
  have hkn:(k:Int) < (tn:Int):=by have:=Hn.out;omega
  obtain ⟨xe,Eh⟩:∃ x,Hid (gx s.tasks s.af t.no=x):=⟨_,rfl⟩
  obtain ⟨N1,pg⟩:∃ N,Hid (lX t=N):=⟨_,rfl⟩
  obtain ⟨N2,nM⟩:∃ N,Hid (nj N1=N):=⟨_,rfl⟩
  obtain ⟨NT,jw⟩:∃ N,Hid (j3 N2 (s.seq+1)=N):=⟨_,rfl⟩
  obtain ⟨NB,sC⟩:∃ N,Hid (j4 N2 (s.seq+1)=N):=⟨_,rfl⟩
  have HT:Hid (gw s cpu={ (s:Sy) with seq:=if NB then s.seq+1 else s.seq,tasks:=s.tasks.set k NT,trace:=s.trace++[⟨cpu,t.no,xe⟩] }):=by
   show _=_
   unfold gw tu Bu Bv
   rw [hp,if_neg (by omega),Int.toNat_natCast,List.getD_eq_getElem?_getD,ht,Option.getD_some,pg.out,nM.out,jw.out,sC.out,Eh.out]
  have hw1:IntKind.i64.wrap (s.seq+1)=s.seq+1:=Go.IntWalk.i64_in _ (by omega)
  have HK:Hid (k < s.tasks.length):=hk
  have Ei:Hid (s.tasks[k]?=some t):=ht
  have b1:∀ w',aa w1 w'->∀ j,w'.cell? ⟨w.heap.size,j,none⟩=(ae s ⟨⟨some ⟨rb,0,none⟩,tn,ak⟩,⟨la,ln,aj⟩,⟨ga,gn,ao⟩,⟨fa,fn,aq⟩,⟨ra,rn,au⟩⟩)[j]?:=fun w' kk=>(sB.var.box.keeps kk).cells
  dsimp only [ae] at b1
  rw [hp]
  have hsb:w.heap.size < w1.heap.size:=G1.out.var.box.lt
  have hs1:w.heap.size≠w1.heap.size:=by omega
  have hs2:w.heap.size≠w1.heap.size+1:=by omega
  clear hp hk ht z1 z2 sB
  go_upto_region 6 with fail
  go_wp2_with fail
  clear hs1 hs2
  change Calls _ _ _ ((w1.alloc (.cells #[.int .i64 cpu,.int .i64 t.no,.int .i64 0] 104)).alloc (.cells (tc t) 43)) _
  have kY:aa w1 ((w1.alloc (.cells #[.int .i64 cpu,.int .i64 t.no,.int .i64 0] 104)).alloc (.cells (tc t) 43)):=((aa.refl _).alloc _).alloc _
  have TY:Hid (ai ((w1.alloc (.cells #[.int .i64 cpu,.int .i64 t.no,.int .i64 0] 104)).alloc (.cells (tc t) 43)) w1.heap.size (eC ⟨cpu,t.no,0⟩)):=(ai.new _ _ _).alloc _
  have BY:Hid (ai ((w1.alloc (.cells #[.int .i64 cpu,.int .i64 t.no,.int .i64 0] 104)).alloc (.cells (tc t) 43)) (w1.heap.size+1) (tc t)):=by
   have:=ai.new (w1.alloc (.cells #[.int .i64 cpu,.int .i64 t.no,.int .i64 0] 104)) (tc t) 43
   show ai _ _ _
   simpa using this
  have FT:Hid (∀ i,¬ bp ⟨⟨some ⟨rb,0,none⟩,tn,ak⟩,⟨la,ln,aj⟩,⟨ga,gn,ao⟩,⟨fa,fn,aq⟩,⟨ra,rn,au⟩⟩ vs i w1.heap.size):=fun i hi=>by have:=(G1.out.var.own.aG hi).2;omega
  have hrx:w.heap.size+1 < w1.heap.size:=R1.out.lt
  generalize (w1.alloc (.cells #[.int .i64 cpu,.int .i64 t.no,.int .i64 0] 104)).alloc (.cells (tc t) 43)=Y at *
  generalize htb:w1.heap.size+1=tb at *
  generalize htn:w1.heap.size=kg at *
  refine (zZ (S1.out.keeps kY).gM (S1.out.keeps kY).gL t.no).mono ?_
  rintro e w2 ⟨rfl,k2⟩
  rw [Eh.out]
  have K2:aa w1 w2:=kY.trans k2
  obtain ⟨_,q1,q2⟩:=TY.out.keeps k2
  go_upto_region 7 with fail
  have Ej:Hid (ai (w2.setCell ⟨kg,2,none⟩ (.int .i64 xe)) kg (eC ⟨cpu,t.no,xe⟩)):=(TY.out.keeps k2).set 2 (by simp) _
  have Ek:Hid (ai (w2.setCell ⟨kg,2,none⟩ (.int .i64 xe)) tb (tc t)):=(BY.out.keeps k2).far (by omega) _
  have El:Hid (ai (w2.setCell ⟨kg,2,none⟩ (.int .i64 xe)) (w.heap.size+1) zc):=(R1.out.keeps K2).far (by omega) _
  have ud:Hid (aP w lo ⟨⟨some ⟨rb,0,none⟩,tn,ak⟩,⟨la,ln,aj⟩,⟨ga,gn,ao⟩,⟨fa,fn,aq⟩,⟨ra,rn,au⟩⟩ vs (w2.setCell ⟨kg,2,none⟩ (.int .i64 xe)) w.heap.size ⟨⟨some ⟨rb,0,none⟩,tn,ak⟩,⟨la,ln,aj⟩,⟨ga,gn,ao⟩,⟨fa,fn,aq⟩,⟨ra,rn,au⟩⟩ vs s):=(G1.out.keeps K2).elsewhere FT.out (by omega) (by omega) [.int .i64 xe] 2
  clear q1 q2 TY BY R1 G1 S1 K2 k2 kY b1 zr OK
  generalize w2.setCell ⟨kg,2,none⟩ (.int .i64 xe)=X1 at *
  have c0:∀ w',aa X1 w'->∀ j,w'.cell? ⟨tb,j,none⟩=(tc t)[j]?:=fun w' kk=>(Ek.out.keeps kk).cells
  have c1:∀ w',aa X1 w'->∀ j,w'.cell? ⟨w.heap.size,j,none⟩=(ae s ⟨⟨some ⟨rb,0,none⟩,tn,ak⟩,⟨la,ln,aj⟩,⟨ga,gn,ao⟩,⟨fa,fn,aq⟩,⟨ra,rn,au⟩⟩)[j]?:=fun w' kk=>(ud.out.var.box.keeps kk).cells
  dsimp only [ae] at c1
  go_cut [8,9] (fun c8 c9 wx=>∃ nb,c8 = .pointer (some ⟨nb,0,none⟩) /\ c9 = .bool NB /\ X1.heap.size <= nb /\ Hid (ai wx nb (tc NT)) /\ aa X1 wx)
  case first =>
   refine wp_region_held_drew (S:=fun w'=>aa X1 w') (by kernel_rfl) ?_ (fun hHeld => ?_)
   ·exact (aa.refl X1).drew
   refine ad.go [0,3,4,5] ?_
   iterate 4 (refine aJ (h := ?_);try simp only [ar])
   refine ad.nil ?_
   refine wpAnyH_ready (rs:=[1,10]) (by kernel_rfl) (by simp) ?_
   refine AllReadyH.cons (by simp only [List.getElem?_toArray,List.getElem?_cons_succ,List.getElem?_cons_zero];rfl) (fun K hK => ?_) (AllReadyH.cons (by simp only [List.getElem?_toArray,List.getElem?_cons_succ,List.getElem?_cons_zero];rfl) (fun K hK => ?_) AllReadyH.nil)
   ·go_simp
    (go_at_call 206;refine (Ak t _).mono ?_;rintro e w3 ⟨rfl,k3⟩;rw [pg.out])
    try go_wp2_with fail
    refine hK.out _ _ ?_ fun hHeld => ?_
    ·exact aa.trans (by assumption) (by assumption)
    clear hK K
    try simp only [ar]
    refine wpAnyH_ready (rs:=[2,10]) (by kernel_rfl) (by simp) ?_
    refine AllReadyH.cons (by simp only [List.getElem?_toArray,List.getElem?_cons_succ,List.getElem?_cons_zero];rfl) (fun K hK => ?_) (AllReadyH.cons (by simp only [List.getElem?_toArray,List.getElem?_cons_succ,List.getElem?_cons_zero];rfl) (fun K hK => ?_) AllReadyH.nil)
    ·go_simp
     (go_at_call 205;refine (wO N1 _).mono ?_;rintro e w4 ⟨rfl,k4⟩;rw [nM.out])
     try go_wp2_with fail
     refine hK.out _ _ ?_ fun hHeld => ?_
     ·exact aa.trans (by assumption) (by assumption)
     clear hK K
     try simp only [ar]
     refine wpAnyH_ready (rs:=[6,10]) (by kernel_rfl) (by simp) ?_
     refine AllReadyH.cons (by simp only [List.getElem?_toArray,List.getElem?_cons_succ,List.getElem?_cons_zero];rfl) (fun K hK => ?_) (AllReadyH.cons (by simp only [List.getElem?_toArray,List.getElem?_cons_succ,List.getElem?_cons_zero];rfl) (fun K hK => ?_) AllReadyH.nil)
     ·go_simp
      (go_at_call 204;refine (tE N2 (s.seq+1) _).mono ?_;rintro e w5 ⟨rfl,k5⟩;rw [jw.out,sC.out])
      try go_wp2_with fail
      refine hK.out _ _ ?_ fun hHeld => ?_
      ·exact aa.trans (by assumption) (by assumption)
      clear hK K
      try simp only [ar]
      refine ad.go [7,8,9] ?_
      iterate 3 (refine aJ (h := ?_);try simp only [ar])
      refine ad.nil ?_
      refine aO 10 (h:=fun K hK => ?_)
      go_simp
      try go_wp2_with fail
      refine hK.out _ _ ?_ fun hHeld => ?_
      ·exact aa.alloc (by assumption) _
      clear hK K
      try simp only [ar]
      refine aO 11 (h:=fun K hK => ?_)
      have hnb:X1.heap.size <= w5.heap.size:=aa.size (by assumption:aa X1 w5)
      go_simp
      try go_wp2_with fail
      refine hK.out _ (w5.alloc (.cells (tc NT) 43)) ?_ (fun hHeld => ?_)
      ·exact aa.alloc (by assumption) _
      clear hK K
      try simp only [ar]
      have hBN:Hid (ai (w5.alloc (.cells (tc NT) 43)) (w5.heap.size) (tc NT)):=ai.new _ _ _
      generalize w5.alloc (.cells (tc NT) 43)=XW at *
      refine cU 12 (h := ?_)
      try simp only [ar]
      refine wpAnyH_done (by kernel_rfl) ?_ _
      go_wp2_with fail
      go_meet
      exact ⟨(w5.heap.size),rfl,rfl,hnb,hBN,by assumption⟩
     ·go_simp
      try go_wp2_with fail
      refine hK.out _ _ ?_ fun hHeld => ?_
      ·exact aa.alloc (by assumption) _
      clear hK K
      try simp only [ar]
      refine aO 6 (h:=fun K hK => ?_)
      go_simp
      (go_at_call 204;refine (tE N2 (s.seq+1) _).mono ?_;rintro e w5 ⟨rfl,k5⟩;rw [jw.out,sC.out])
      try go_wp2_with fail
      refine hK.out _ _ ?_ fun hHeld => ?_
      ·exact aa.trans (by assumption) (by assumption)
      clear hK K
      try simp only [ar]
      refine ad.go [7,8,9] ?_
      iterate 3 (refine aJ (h := ?_);try simp only [ar])
      refine ad.nil ?_
      refine aO 11 (h:=fun K hK => ?_)
      have ia:ai w5 (w4.heap.size) (tc ag.zero):=(ai.new (w4) (tc ag.zero) 43).keeps (k5)
      have ib:Hid (ai w5 (w4.heap.size) (tc ag.zero)):=ia
      obtain ⟨_,jh,ji⟩:=ia
      have hnb:X1.heap.size <= w4.heap.size:=aa.size (by assumption:aa X1 w4)
      go_simp
      try go_wp2_with fail
      refine hK.out _ (putC w5 (w4.heap.size) 0 (tc NT).toList) ?_ (fun hHeld => ?_)
      ·exact aa.putC (b:=w4.heap.size) hnb (tc NT).toList 0 (by assumption)
      clear hK K
      try simp only [ar]
      have hBN:Hid (ai (putC w5 (w4.heap.size) 0 (tc NT).toList) (w4.heap.size) (tc NT)):=ib.out.putC (tc NT).toList rfl
      clear jh ji ib
      generalize putC w5 (w4.heap.size) 0 (tc NT).toList=XW at *
      refine cU 12 (h := ?_)
      try simp only [ar]
      refine wpAnyH_done (by kernel_rfl) ?_ _
      go_wp2_with fail
      go_meet
      exact ⟨(w4.heap.size),rfl,rfl,hnb,hBN,by assumption⟩
    ·go_simp
     try go_wp2_with fail
     refine hK.out _ _ ?_ fun hHeld => ?_
     ·exact aa.alloc (by assumption) _
     clear hK K
     try simp only [ar]
     refine aO 2 (h:=fun K hK => ?_)
     go_simp
     (go_at_call 205;refine (wO N1 _).mono ?_;rintro e w4 ⟨rfl,k4⟩;rw [nM.out])
     try go_wp2_with fail
     refine hK.out _ _ ?_ fun hHeld => ?_
     ·exact aa.trans (by assumption) (by assumption)
     clear hK K
     try simp only [ar]
     refine aO 6 (h:=fun K hK => ?_)
     go_simp
     (go_at_call 204;refine (tE N2 (s.seq+1) _).mono ?_;rintro e w5 ⟨rfl,k5⟩;rw [jw.out,sC.out])
     try go_wp2_with fail
     refine hK.out _ _ ?_ fun hHeld => ?_
     ·exact aa.trans (by assumption) (by assumption)
     clear hK K
     try simp only [ar]
     refine ad.go [7,8,9] ?_
     iterate 3 (refine aJ (h := ?_);try simp only [ar])
     refine ad.nil ?_
     refine aO 11 (h:=fun K hK => ?_)
     have ia:ai w5 (w3.heap.size) (tc ag.zero):=(ai.new (w3) (tc ag.zero) 43).keeps ((k4).trans k5)
     have ib:Hid (ai w5 (w3.heap.size) (tc ag.zero)):=ia
     obtain ⟨_,jh,ji⟩:=ia
     have hnb:X1.heap.size <= w3.heap.size:=aa.size (by assumption:aa X1 w3)
     go_simp
     try go_wp2_with fail
     refine hK.out _ (putC w5 (w3.heap.size) 0 (tc NT).toList) ?_ (fun hHeld => ?_)
     ·exact aa.putC (b:=w3.heap.size) hnb (tc NT).toList 0 (by assumption)
     clear hK K
     try simp only [ar]
     have hBN:Hid (ai (putC w5 (w3.heap.size) 0 (tc NT).toList) (w3.heap.size) (tc NT)):=ib.out.putC (tc NT).toList rfl
     clear jh ji ib
     generalize putC w5 (w3.heap.size) 0 (tc NT).toList=XW at *
     refine cU 12 (h := ?_)
     try simp only [ar]
     refine wpAnyH_done (by kernel_rfl) ?_ _
     go_wp2_with fail
     go_meet
     exact ⟨(w3.heap.size),rfl,rfl,hnb,hBN,by assumption⟩
   ·go_simp
    try go_wp2_with fail
    refine hK.out _ _ ?_ fun hHeld => ?_
    ·exact aa.alloc (by assumption) _
    clear hK K
    try simp only [ar]
    refine aO 1 (h:=fun K hK => ?_)
    go_simp
    (go_at_call 206;refine (Ak t _).mono ?_;rintro e w3 ⟨rfl,k3⟩;rw [pg.out])
    try go_wp2_with fail
    refine hK.out _ _ ?_ fun hHeld => ?_
    ·exact aa.trans (by assumption) (by assumption)
    clear hK K
    try simp only [ar]
    refine aO 2 (h:=fun K hK => ?_)
    go_simp
    (go_at_call 205;refine (wO N1 _).mono ?_;rintro e w4 ⟨rfl,k4⟩;rw [nM.out])
    try go_wp2_with fail
    refine hK.out _ _ ?_ fun hHeld => ?_
    ·exact aa.trans (by assumption) (by assumption)
    clear hK K
    try simp only [ar]
    refine aO 6 (h:=fun K hK => ?_)
    go_simp
    (go_at_call 204;refine (tE N2 (s.seq+1) _).mono ?_;rintro e w5 ⟨rfl,k5⟩;rw [jw.out,sC.out])
    try go_wp2_with fail
    refine hK.out _ _ ?_ fun hHeld => ?_
    ·exact aa.trans (by assumption) (by assumption)
    clear hK K
    try simp only [ar]
    refine ad.go [7,8,9] ?_
    iterate 3 (refine aJ (h := ?_);try simp only [ar])
    refine ad.nil ?_
    refine aO 11 (h:=fun K hK => ?_)
    have ia:ai w5 (X1.heap.size) (tc ag.zero):=(ai.new (X1.drew) (tc ag.zero) 43).keeps (((k3).trans k4).trans k5)
    have ib:Hid (ai w5 (X1.heap.size) (tc ag.zero)):=ia
    obtain ⟨_,jh,ji⟩:=ia
    have hnb:X1.heap.size <= X1.heap.size:=Nat.le_refl _
    go_simp
    try go_wp2_with fail
    refine hK.out _ (putC w5 (X1.heap.size) 0 (tc NT).toList) ?_ (fun hHeld => ?_)
    ·exact aa.putC (b:=X1.heap.size) hnb (tc NT).toList 0 (by assumption)
    clear hK K
    try simp only [ar]
    have hBN:Hid (ai (putC w5 (X1.heap.size) 0 (tc NT).toList) (X1.heap.size) (tc NT)):=ib.out.putC (tc NT).toList rfl
    clear jh ji ib
    generalize putC w5 (X1.heap.size) 0 (tc NT).toList=XW at *
    refine cU 12 (h := ?_)
    try simp only [ar]
    refine wpAnyH_done (by kernel_rfl) ?_ _
    go_wp2_with fail
    go_meet
    exact ⟨(X1.heap.size),rfl,rfl,hnb,hBN,by assumption⟩
  case rest =>
  obtain ⟨nb,rfl,rfl,hnb,BN,KX⟩:=hcut
  have kO:Hid (aP w lo ⟨⟨some ⟨rb,0,none⟩,tn,ak⟩,⟨la,ln,aj⟩,⟨ga,gn,ao⟩,⟨fa,fn,aq⟩,⟨ra,rn,au⟩⟩ vs wc w.heap.size ⟨⟨some ⟨rb,0,none⟩,tn,ak⟩,⟨la,ln,aj⟩,⟨ga,gn,ao⟩,⟨fa,fn,aq⟩,⟨ra,rn,au⟩⟩ vs s):=ud.out.keeps KX
  have ph:Hid (ai wc kg (eC ⟨cpu,t.no,xe⟩)):=Ej.out.keeps KX
  have pj:Hid (ai wc (w.heap.size+1) zc):=El.out.keeps KX
  have OL:nb≠w.heap.size:=by have:=ud.out.var.box.lt;omega
  clear ud Ej El Ek c0 c1 KX
  cases NB
  ·simp only [Bool.false_eq_true,if_false] at HT
   have zz:=kO.out.var.own.aI (rb:=rb) rfl (k:=k) (t:=t) Ei.out
   obtain ⟨z1,z2⟩:=zz
   have y0:wc.cell? ⟨rb,k*14,none⟩=some (.int .i64 t.no):=z1 0 (by omega)
   obtain ⟨_,o1,o2⟩:=kO.out.var.box
   dsimp only [ae] at o1
   obtain ⟨_,n1,n2⟩:=BN.out
   go_upto_region 11 with fail
   have pk:rb≠kg:=fun e=>FT.out 0 (by rw [<- e];rfl)
   have pn:rb≠w.heap.size+1:=fun e=>FR.out 0 (by rw [<- e];rfl)
   have GX:Hid (aP w lo ⟨⟨some ⟨rb,0,none⟩,tn,ak⟩,⟨la,ln,aj⟩,⟨ga,gn,ao⟩,⟨fa,fn,aq⟩,⟨ra,rn,au⟩⟩ vs (putC wc rb (k*14) (tc NT).toList) w.heap.size ⟨⟨some ⟨rb,0,none⟩,tn,ak⟩,⟨la,ln,aj⟩,⟨ga,gn,ao⟩,⟨fa,fn,aq⟩,⟨ra,rn,au⟩⟩ vs { s with tasks:=s.tasks.set k NT }):=kO.out.task (rb:=rb) rfl HK.out NT
   have TX:Hid (ai (putC wc rb (k*14) (tc NT).toList) kg (eC ⟨cpu,t.no,xe⟩)):=ai.aU pk _ _ ph.out
   have RX:Hid (ai (putC wc rb (k*14) (tc NT).toList) (w.heap.size+1) zc):=ai.aU pn _ _ pj.out
   change Code.wp _ _ _ _ (putC wc rb (k*14) (tc NT).toList)
   clear z1 z2 y0 o1 o2 n1 n2 kO ph pj BN
   generalize putC wc rb (k*14) (tc NT).toList=X at *
   obtain ⟨_,o1,o2⟩:=GX.out.var.box
   dsimp only [ae] at o1
   obtain ⟨_,n1,n2⟩:=TX.out
   go_wp2_with (at_builtin;(refine nc rfl _ _ 28 rfl lo 104 (.agg (eC Tn.zero)) 3 24 eC Tryz.underlying28 (by kernel_rfl) rfl (by decide) jc pC _ s.trace rfl (GX.out.var.own.r.keeps ((aa.refl _).alloc _)) (by have:=GX.out.var.gI;have:=GX.out.var.box.lt;simp;omega) (⟨cpu,t.no,xe⟩:Tn) _ 1 (ai.new _ _ _) rfl ?c1 ?c2 ?_))
   case c1=>have:=Hrl.out;unfold maxLen;omega
   case c2=>have:=Hrl.out;omega
   intro v6 w6 o6 g6 f6
   obtain ⟨a6,c6,e6⟩:=o6.form jc
   obtain ⟨m6,jV⟩:∃ m,Hid ((s.trace++[(⟨cpu,t.no,xe⟩:Tn)]).length=m):=⟨_,rfl⟩
   rw [jV.out] at e6
   subst e6
   have lC:∀ q,(Value.slice a6 m6 c6).ownBlock=some q->(Value.slice ra rn au).ownBlock=some q∨X.heap.size <= q:=fun q hq=>(f6 q hq).imp id (fun e=>by rw [e];simp)
   have GY:Hid (aP w lo ⟨⟨some ⟨rb,0,none⟩,tn,ak⟩,⟨la,ln,aj⟩,⟨ga,gn,ao⟩,⟨fa,fn,aq⟩,⟨ra,rn,au⟩⟩ vs (w6.setCell ⟨w.heap.size,8,none⟩ (.slice a6 m6 c6)) w.heap.size ⟨⟨some ⟨rb,0,none⟩,tn,ak⟩,⟨la,ln,aj⟩,⟨ga,gn,ao⟩,⟨fa,fn,aq⟩,⟨a6,m6,c6⟩⟩ vs { ({ s with tasks:=s.tasks.set k NT }:Sy) with trace:=s.trace++[(⟨cpu,t.no,xe⟩:Tn)] }):=GX.out.trace ((aa.refl X).alloc _) (x:=⟨a6,m6,c6⟩) o6 g6 (fun q hq=>(f6 q hq).imp id (fun e=>by rw [e];simp))
   have B6:ai w6 w.heap.size (ae ({ s with tasks:=s.tasks.set k NT }:Sy) ⟨⟨some ⟨rb,0,none⟩,tn,ak⟩,⟨la,ln,aj⟩,⟨ga,gn,ao⟩,⟨fa,fn,aq⟩,⟨ra,rn,au⟩⟩):=(GX.out.var.box.keeps ((aa.refl X).alloc _)).grown g6 (fun q e e2=>GX.out.var.far 4 (by rw [<- e2];exact e))
   have R6:ai w6 (w.heap.size+1) zc:=(RX.out.keeps ((aa.refl X).alloc _)).grown g6 (fun q e e2=>FR.out 4 (by rw [<- e2];exact e))
   have sA:Hid (∀ i,¬ bp ⟨⟨some ⟨rb,0,none⟩,tn,ak⟩,⟨la,ln,aj⟩,⟨ga,gn,ao⟩,⟨fa,fn,aq⟩,⟨a6,m6,c6⟩⟩ vs i (w.heap.size+1)):=xY FR.out lC RX.out.lt
   have R7:Hid (ai (w6.setCell ⟨w.heap.size,8,none⟩ (.slice a6 m6 c6)) (w.heap.size+1) zc):=R6.far (by omega) _
   obtain ⟨_,p1,p2⟩:=B6
   obtain ⟨_,r1,r2⟩:=R6
   dsimp only [ae] at p1
   clear o1 o2 n1 n2 o6 g6 f6 lC GX TX RX FR
   go_wp2
   have GZ:=GY.out.elsewhere sA.out (by omega) (by omega) (ae ({ ({ s with tasks:=s.tasks.set k NT }:Sy) with trace:=s.trace++[(⟨cpu,t.no,xe⟩:Tn)] }:Sy) ⟨⟨some ⟨rb,0,none⟩,tn,ak⟩,⟨la,ln,aj⟩,⟨ga,gn,ao⟩,⟨fa,fn,aq⟩,⟨a6,m6,c6⟩⟩).toList 0
   have D:=R7.out.putC (ae ({ ({ s with tasks:=s.tasks.set k NT }:Sy) with trace:=s.trace++[(⟨cpu,t.no,xe⟩:Tn)] }:Sy) ⟨⟨some ⟨rb,0,none⟩,tn,ak⟩,⟨la,ln,aj⟩,⟨ga,gn,ao⟩,⟨fa,fn,aq⟩,⟨a6,m6,c6⟩⟩).toList rfl
   change bodyPost _ _ _ _ _ (putC (w6.setCell ⟨w.heap.size,8,none⟩ (.slice a6 m6 c6)) (w.heap.size+1) 0 (ae ({ ({ s with tasks:=s.tasks.set k NT }:Sy) with trace:=s.trace++[(⟨cpu,t.no,xe⟩:Tn)] }:Sy) ⟨⟨some ⟨rb,0,none⟩,tn,ak⟩,⟨la,ln,aj⟩,⟨ga,gn,ao⟩,⟨fa,fn,aq⟩,⟨a6,m6,c6⟩⟩).toList)
   generalize putC (w6.setCell ⟨w.heap.size,8,none⟩ (.slice a6 m6 c6)) (w.heap.size+1) 0 (ae ({ ({ s with tasks:=s.tasks.set k NT }:Sy) with trace:=s.trace++[(⟨cpu,t.no,xe⟩:Tn)] }:Sy) ⟨⟨some ⟨rb,0,none⟩,tn,ak⟩,⟨la,ln,aj⟩,⟨ga,gn,ao⟩,⟨fa,fn,aq⟩,⟨a6,m6,c6⟩⟩).toList=Q at D GZ ⊢
   exact bodyPost_ret (v := .agg (ae ({ ({ s with tasks:=s.tasks.set k NT }:Sy) with trace:=s.trace++[(⟨cpu,t.no,xe⟩:Tn)] }:Sy) ⟨⟨some ⟨rb,0,none⟩,tn,ak⟩,⟨la,ln,aj⟩,⟨ga,gn,ao⟩,⟨fa,fn,aq⟩,⟨a6,m6,c6⟩⟩)) (by simp [results,Tryz.results180,go_sem,D.cells]) rfl ⟨⟨⟨some ⟨rb,0,none⟩,tn,ak⟩,⟨la,ln,aj⟩,⟨ga,gn,ao⟩,⟨fa,fn,aq⟩,⟨a6,m6,c6⟩⟩,by first | (rw [HT.out];done) | (rw [HT.out];rfl),vs,by rw [HT.out];exact GZ.goes⟩
  ·simp only [if_true] at HT
   obtain ⟨_,o1,o2⟩:=kO.out.var.box
   dsimp only [ae] at o1
   go_upto_region 10 with fail
   have Em:Hid (aP w lo ⟨⟨some ⟨rb,0,none⟩,tn,ak⟩,⟨la,ln,aj⟩,⟨ga,gn,ao⟩,⟨fa,fn,aq⟩,⟨ra,rn,au⟩⟩ vs (wc.setCell ⟨w.heap.size,6,none⟩ (.int .i64 (s.seq+1))) w.heap.size ⟨⟨some ⟨rb,0,none⟩,tn,ak⟩,⟨la,ln,aj⟩,⟨ga,gn,ao⟩,⟨fa,fn,aq⟩,⟨ra,rn,au⟩⟩ vs { s with seq:=s.seq+1 }):=kO.out.num s.now s.az (s.seq+1) s.missed (k:=6) rfl (by omega)
   have En:Hid (ai (wc.setCell ⟨w.heap.size,6,none⟩ (.int .i64 (s.seq+1))) kg (eC ⟨cpu,t.no,xe⟩)):=ph.out.far (by omega) _
   have Eo:Hid (ai (wc.setCell ⟨w.heap.size,6,none⟩ (.int .i64 (s.seq+1))) (w.heap.size+1) zc):=pj.out.far (by omega) _
   have Ep:Hid (ai (wc.setCell ⟨w.heap.size,6,none⟩ (.int .i64 (s.seq+1))) nb (tc NT)):=BN.out.far (by omega) _
   clear o1 o2 kO ph pj BN
   generalize wc.setCell ⟨w.heap.size,6,none⟩ (.int .i64 (s.seq+1))=X3 at *
   have kO:=Em
   have ph:=En
   have pj:=Eo
   have BN:=Ep
   clear Em En Eo Ep
   have zz:=kO.out.var.own.aI (rb:=rb) rfl (k:=k) (t:=t) Ei.out
   obtain ⟨z1,z2⟩:=zz
   have y0:X3.cell? ⟨rb,k*14,none⟩=some (.int .i64 t.no):=z1 0 (by omega)
   obtain ⟨_,o1,o2⟩:=kO.out.var.box
   dsimp only [ae] at o1
   obtain ⟨_,n1,n2⟩:=BN.out
   go_upto_region 11 with fail
   have pk:rb≠kg:=fun e=>FT.out 0 (by rw [<- e];rfl)
   have pn:rb≠w.heap.size+1:=fun e=>FR.out 0 (by rw [<- e];rfl)
   have GX:Hid (aP w lo ⟨⟨some ⟨rb,0,none⟩,tn,ak⟩,⟨la,ln,aj⟩,⟨ga,gn,ao⟩,⟨fa,fn,aq⟩,⟨ra,rn,au⟩⟩ vs (putC X3 rb (k*14) (tc NT).toList) w.heap.size ⟨⟨some ⟨rb,0,none⟩,tn,ak⟩,⟨la,ln,aj⟩,⟨ga,gn,ao⟩,⟨fa,fn,aq⟩,⟨ra,rn,au⟩⟩ vs { s with seq:=s.seq+1,tasks:=s.tasks.set k NT }):=kO.out.task (rb:=rb) rfl HK.out NT
   have TX:Hid (ai (putC X3 rb (k*14) (tc NT).toList) kg (eC ⟨cpu,t.no,xe⟩)):=ai.aU pk _ _ ph.out
   have RX:Hid (ai (putC X3 rb (k*14) (tc NT).toList) (w.heap.size+1) zc):=ai.aU pn _ _ pj.out
   change Code.wp _ _ _ _ (putC X3 rb (k*14) (tc NT).toList)
   clear z1 z2 y0 o1 o2 n1 n2 kO ph pj BN
   generalize putC X3 rb (k*14) (tc NT).toList=X at *
   obtain ⟨_,o1,o2⟩:=GX.out.var.box
   dsimp only [ae] at o1
   obtain ⟨_,n1,n2⟩:=TX.out
   go_wp2_with (at_builtin;(refine nc rfl _ _ 28 rfl lo 104 (.agg (eC Tn.zero)) 3 24 eC Tryz.underlying28 (by kernel_rfl) rfl (by decide) jc pC _ s.trace rfl (GX.out.var.own.r.keeps ((aa.refl _).alloc _)) (by have:=GX.out.var.gI;have:=GX.out.var.box.lt;simp;omega) (⟨cpu,t.no,xe⟩:Tn) _ 1 (ai.new _ _ _) rfl ?c1 ?c2 ?_))
   case c1=>have:=Hrl.out;unfold maxLen;omega
   case c2=>have:=Hrl.out;omega
   intro v6 w6 o6 g6 f6
   obtain ⟨a6,c6,e6⟩:=o6.form jc
   obtain ⟨m6,jV⟩:∃ m,Hid ((s.trace++[(⟨cpu,t.no,xe⟩:Tn)]).length=m):=⟨_,rfl⟩
   rw [jV.out] at e6
   subst e6
   have lC:∀ q,(Value.slice a6 m6 c6).ownBlock=some q->(Value.slice ra rn au).ownBlock=some q∨X.heap.size <= q:=fun q hq=>(f6 q hq).imp id (fun e=>by rw [e];simp)
   have GY:Hid (aP w lo ⟨⟨some ⟨rb,0,none⟩,tn,ak⟩,⟨la,ln,aj⟩,⟨ga,gn,ao⟩,⟨fa,fn,aq⟩,⟨ra,rn,au⟩⟩ vs (w6.setCell ⟨w.heap.size,8,none⟩ (.slice a6 m6 c6)) w.heap.size ⟨⟨some ⟨rb,0,none⟩,tn,ak⟩,⟨la,ln,aj⟩,⟨ga,gn,ao⟩,⟨fa,fn,aq⟩,⟨a6,m6,c6⟩⟩ vs { ({ s with seq:=s.seq+1,tasks:=s.tasks.set k NT }:Sy) with trace:=s.trace++[(⟨cpu,t.no,xe⟩:Tn)] }):=GX.out.trace ((aa.refl X).alloc _) (x:=⟨a6,m6,c6⟩) o6 g6 (fun q hq=>(f6 q hq).imp id (fun e=>by rw [e];simp))
   have B6:ai w6 w.heap.size (ae ({ s with seq:=s.seq+1,tasks:=s.tasks.set k NT }:Sy) ⟨⟨some ⟨rb,0,none⟩,tn,ak⟩,⟨la,ln,aj⟩,⟨ga,gn,ao⟩,⟨fa,fn,aq⟩,⟨ra,rn,au⟩⟩):=(GX.out.var.box.keeps ((aa.refl X).alloc _)).grown g6 (fun q e e2=>GX.out.var.far 4 (by rw [<- e2];exact e))
   have R6:ai w6 (w.heap.size+1) zc:=(RX.out.keeps ((aa.refl X).alloc _)).grown g6 (fun q e e2=>FR.out 4 (by rw [<- e2];exact e))
   have sA:Hid (∀ i,¬ bp ⟨⟨some ⟨rb,0,none⟩,tn,ak⟩,⟨la,ln,aj⟩,⟨ga,gn,ao⟩,⟨fa,fn,aq⟩,⟨a6,m6,c6⟩⟩ vs i (w.heap.size+1)):=xY FR.out lC RX.out.lt
   have R7:Hid (ai (w6.setCell ⟨w.heap.size,8,none⟩ (.slice a6 m6 c6)) (w.heap.size+1) zc):=R6.far (by omega) _
   obtain ⟨_,p1,p2⟩:=B6
   obtain ⟨_,r1,r2⟩:=R6
   dsimp only [ae] at p1
   clear o1 o2 n1 n2 o6 g6 f6 lC GX TX RX FR
   go_wp2
   have GZ:=GY.out.elsewhere sA.out (by omega) (by omega) (ae ({ ({ s with seq:=s.seq+1,tasks:=s.tasks.set k NT }:Sy) with trace:=s.trace++[(⟨cpu,t.no,xe⟩:Tn)] }:Sy) ⟨⟨some ⟨rb,0,none⟩,tn,ak⟩,⟨la,ln,aj⟩,⟨ga,gn,ao⟩,⟨fa,fn,aq⟩,⟨a6,m6,c6⟩⟩).toList 0
   have D:=R7.out.putC (ae ({ ({ s with seq:=s.seq+1,tasks:=s.tasks.set k NT }:Sy) with trace:=s.trace++[(⟨cpu,t.no,xe⟩:Tn)] }:Sy) ⟨⟨some ⟨rb,0,none⟩,tn,ak⟩,⟨la,ln,aj⟩,⟨ga,gn,ao⟩,⟨fa,fn,aq⟩,⟨a6,m6,c6⟩⟩).toList rfl
   change bodyPost _ _ _ _ _ (putC (w6.setCell ⟨w.heap.size,8,none⟩ (.slice a6 m6 c6)) (w.heap.size+1) 0 (ae ({ ({ s with seq:=s.seq+1,tasks:=s.tasks.set k NT }:Sy) with trace:=s.trace++[(⟨cpu,t.no,xe⟩:Tn)] }:Sy) ⟨⟨some ⟨rb,0,none⟩,tn,ak⟩,⟨la,ln,aj⟩,⟨ga,gn,ao⟩,⟨fa,fn,aq⟩,⟨a6,m6,c6⟩⟩).toList)
   generalize putC (w6.setCell ⟨w.heap.size,8,none⟩ (.slice a6 m6 c6)) (w.heap.size+1) 0 (ae ({ ({ s with seq:=s.seq+1,tasks:=s.tasks.set k NT }:Sy) with trace:=s.trace++[(⟨cpu,t.no,xe⟩:Tn)] }:Sy) ⟨⟨some ⟨rb,0,none⟩,tn,ak⟩,⟨la,ln,aj⟩,⟨ga,gn,ao⟩,⟨fa,fn,aq⟩,⟨a6,m6,c6⟩⟩).toList=Q at D GZ ⊢
   exact bodyPost_ret (v := .agg (ae ({ ({ s with seq:=s.seq+1,tasks:=s.tasks.set k NT }:Sy) with trace:=s.trace++[(⟨cpu,t.no,xe⟩:Tn)] }:Sy) ⟨⟨some ⟨rb,0,none⟩,tn,ak⟩,⟨la,ln,aj⟩,⟨ga,gn,ao⟩,⟨fa,fn,aq⟩,⟨a6,m6,c6⟩⟩)) (by simp [results,Tryz.results180,go_sem,D.cells]) rfl ⟨⟨⟨some ⟨rb,0,none⟩,tn,ak⟩,⟨la,ln,aj⟩,⟨ga,gn,ao⟩,⟨fa,fn,aq⟩,⟨a6,m6,c6⟩⟩,by first | (rw [HT.out];done) | (rw [HT.out];rfl),vs,by rw [HT.out];exact GZ.goes⟩
end Go.Proofs.YteagpjlgjfaclaaGreatDoor
