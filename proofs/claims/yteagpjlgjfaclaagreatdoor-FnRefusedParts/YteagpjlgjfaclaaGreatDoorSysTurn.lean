/-
  Ticks: a turn on a processor.
-/
import Derived.Test.YteagpjlgjfaclaaGreatDoorSysCopy
import Derived.Test.YteagpjlgjfaclaaGreatDoorSysAwake
import Derived.Test.YteagpjlgjfaclaaGreatDoorImplHead
import Derived.Test.YteagpjlgjfaclaaGreatDoorDueSpec
import Derived.Test.YteagpjlgjfaclaaGreatDoorFixSpec
import Derived.Test.YteagpjlgjfaclaaGreatDoorFairList
import Derived.Test.YteagpjlgjfaclaaGreatDoorTaskBase
import Derived.Deep.Cut
namespace Go.Proofs.YteagpjlgjfaclaaGreatDoor
set_option maxRecDepth 100000
open Go.RowKit
attribute [local go_sem] Keeps.refl Keeps.alloc Keeps.drew Keeps.drewN
theorem qfG {v:Sv} {vs:List Lv} {x:Rw} {c n:Nat} (h:∀ i,¬ qaf v vs i c) (f:∀ q,x.val.ownBlock=some q->v.r.val.ownBlock=some q∨n <= q) (hc:c < n):∀ i,¬ qaf { v with r:=x } vs i c:=by
 intro i hi
 match i,hi with
 | 0,hi=>exact h 0 hi
 | 1,hi=>exact h 1 hi
 | 2,hi=>exact h 2 hi
 | 3,hi=>exact h 3 hi
 | 4,hi =>
  rcases f c hi with h2 | h2
  ·exact h 4 h2
  ·omega
theorem qmp (ts:List Tsk) (ls:List Lk) (cpu:Int):qcN ts ls cpu = -1∨∃ (k:Nat) (t:Tsk),qcN ts ls cpu=(k:Int) /\ k < ts.length /\ ts[k]?=some t:=by
 unfold qcN
 rcases qhi ts (qfv ts ls cpu) ts.length (Nat.le_refl _) with h | ⟨j,t,h1,h2,h3,_⟩
 ·exact .inl h.1
 ·exact .inr ⟨j,t,h1,h2,h3⟩
set_option linter.unusedSimpArgs false in
set_option maxHeartbeats 1000000 in
theorem qmq {w:World} {lo:Nat} {v:Sv} {vs:List Lv} {s:Sy} (h:OwnS w lo v vs s) (hl:lo <= w.heap.size) (hz:qai s <= 2000000) (hq0:0 <= s.seq) (hq1:s.seq <= 2000000) (cpu:Int) :
  Calls Tryz.prog 180 #[.agg (syc s v),.int .i64 cpu] w fun e w'=>∃ v' vs',e = .returned (.agg (syc (qa0 s cpu) v')) /\ Goes w lo v vs w' v' vs' (qa0 s cpu):=by
 obtain ⟨⟨ta,tn,tcap⟩,⟨la,ln,lcap⟩,⟨ga,gn,gcap⟩,⟨fa,fn,fcap⟩,⟨ra,rn,rcap⟩⟩:=v
 have FN:Hid (∀ i b,qaf ⟨⟨ta,tn,tcap⟩,⟨la,ln,lcap⟩,⟨ga,gn,gcap⟩,⟨fa,fn,fcap⟩,⟨ra,rn,rcap⟩⟩ vs i b->b < w.heap.size):=fun i b hb=>(h.blkLt hb).2
 have Hrl:Hid (s.trace.length <= 2000000):=by show _ <= _;unfold qai at hz;omega
 have ON:=h.on hz
 have Hn:Hid (s.tasks.length=tn):=ON.lay.tl
 have kZ:Keeps w ((w.alloc (.cells (syc s ⟨⟨ta,tn,tcap⟩,⟨la,ln,lcap⟩,⟨ga,gn,gcap⟩,⟨fa,fn,fcap⟩,⟨ra,rn,rcap⟩⟩) 30)).alloc (.cells zc 30)):=((Keeps.refl w).alloc _).alloc _
 have GZ0:Hid (VarG w lo ⟨⟨ta,tn,tcap⟩,⟨la,ln,lcap⟩,⟨ga,gn,gcap⟩,⟨fa,fn,fcap⟩,⟨ra,rn,rcap⟩⟩ vs ((w.alloc (.cells (syc s ⟨⟨ta,tn,tcap⟩,⟨la,ln,lcap⟩,⟨ga,gn,gcap⟩,⟨fa,fn,fcap⟩,⟨ra,rn,rcap⟩⟩) 30)).alloc (.cells zc 30)) w.heap.size ⟨⟨ta,tn,tcap⟩,⟨la,ln,lcap⟩,⟨ga,gn,gcap⟩,⟨fa,fn,fcap⟩,⟨ra,rn,rcap⟩⟩ vs s):=(VarG.start h hl).keeps ((Keeps.refl _).alloc _)
 have R0:Hid (Blk ((w.alloc (.cells (syc s ⟨⟨ta,tn,tcap⟩,⟨la,ln,lcap⟩,⟨ga,gn,gcap⟩,⟨fa,fn,fcap⟩,⟨ra,rn,rcap⟩⟩) 30)).alloc (.cells zc 30)) (w.heap.size+1) zc):=by
  have:=Blk.new (w.alloc (.cells (syc s ⟨⟨ta,tn,tcap⟩,⟨la,ln,lcap⟩,⟨ga,gn,gcap⟩,⟨fa,fn,fcap⟩,⟨ra,rn,rcap⟩⟩) 30)) zc 30
  show Blk _ _ _
  simpa using this
 have FR:Hid (∀ i,¬ qaf ⟨⟨ta,tn,tcap⟩,⟨la,ln,lcap⟩,⟨ga,gn,gcap⟩,⟨fa,fn,fcap⟩,⟨ra,rn,rcap⟩⟩ vs i (w.heap.size+1)):=fun i hi=>by have:=FN.out i _ hi;omega
 have HS:Hid (SysOn ((w.alloc (.cells (syc s ⟨⟨ta,tn,tcap⟩,⟨la,ln,lcap⟩,⟨ga,gn,gcap⟩,⟨fa,fn,fcap⟩,⟨ra,rn,rcap⟩⟩) 30)).alloc (.cells zc 30)) ⟨⟨ta,tn,tcap⟩,⟨la,ln,lcap⟩,⟨ga,gn,gcap⟩,⟨fa,fn,fcap⟩,⟨ra,rn,rcap⟩⟩ s):=ON.keeps kZ
 clear h hz ON
 go_enter Tryz.func180,Tryz.ntmps180
 go_wp2_with fail
 change Calls _ _ _ ((w.alloc (.cells (syc s ⟨⟨ta,tn,tcap⟩,⟨la,ln,lcap⟩,⟨ga,gn,gcap⟩,⟨fa,fn,fcap⟩,⟨ra,rn,rcap⟩⟩) 30)).alloc (.cells zc 30)) _
 generalize (w.alloc (.cells (syc s ⟨⟨ta,tn,tcap⟩,⟨la,ln,lcap⟩,⟨ga,gn,gcap⟩,⟨fa,fn,fcap⟩,⟨ra,rn,rcap⟩⟩) 30)).alloc (.cells zc 30)=Z at *
 refine (qlR (⟨HS.out.onT,HS.out.onL⟩:Two Z ta tn tcap s.tasks la ln lcap s.locks) cpu).mono ?_
 rintro e w1 ⟨rfl,k1⟩
 have G1:Hid (VarG w lo ⟨⟨ta,tn,tcap⟩,⟨la,ln,lcap⟩,⟨ga,gn,gcap⟩,⟨fa,fn,fcap⟩,⟨ra,rn,rcap⟩⟩ vs w1 w.heap.size ⟨⟨ta,tn,tcap⟩,⟨la,ln,lcap⟩,⟨ga,gn,gcap⟩,⟨fa,fn,fcap⟩,⟨ra,rn,rcap⟩⟩ vs s):=GZ0.out.keeps k1
 have R1:Hid (Blk w1 (w.heap.size+1) zc):=R0.out.keeps k1
 have S1:Hid (SysOn w1 ⟨⟨ta,tn,tcap⟩,⟨la,ln,lcap⟩,⟨ga,gn,gcap⟩,⟨fa,fn,fcap⟩,⟨ra,rn,rcap⟩⟩ s):=HS.out.keeps k1
 clear GZ0 R0 HS k1 kZ
 rcases qmp s.tasks s.locks cpu with hp | ⟨k,t,hp,hk,ht⟩
 ·have HT:Hid (qa0 s cpu={ (s:Sy) with trace:=s.trace++[⟨cpu,0,0⟩] }):=by show _=_;unfold qa0;rw [hp];rfl
  rw [hp]
  go_upto_region 11 with fail
  have GX:Hid (VarG w lo ⟨⟨ta,tn,tcap⟩,⟨la,ln,lcap⟩,⟨ga,gn,gcap⟩,⟨fa,fn,fcap⟩,⟨ra,rn,rcap⟩⟩ vs (w1.alloc (.cells #[.int .i64 cpu,.int .i64 0,.int .i64 0] 104)) w.heap.size ⟨⟨ta,tn,tcap⟩,⟨la,ln,lcap⟩,⟨ga,gn,gcap⟩,⟨fa,fn,fcap⟩,⟨ra,rn,rcap⟩⟩ vs s):=G1.out.keeps ((Keeps.refl _).alloc _)
  have TX:Hid (Blk (w1.alloc (.cells #[.int .i64 cpu,.int .i64 0,.int .i64 0] 104)) w1.heap.size (tnc ⟨cpu,0,0⟩)):=Blk.new _ _ _
  have RX:Hid (Blk (w1.alloc (.cells #[.int .i64 cpu,.int .i64 0,.int .i64 0] 104)) (w.heap.size+1) zc):=R1.out.keeps ((Keeps.refl _).alloc _)
  clear G1 R1 S1
  generalize w1.alloc (.cells #[.int .i64 cpu,.int .i64 0,.int .i64 0] 104)=X at *
  generalize w1.heap.size=tnb at *
  obtain ⟨_,o1,o2⟩:=GX.out.var.box
  dsimp only [syc] at o1
  obtain ⟨_,n1,n2⟩:=TX.out
  go_wp2_with (at_builtin;(refine qc8 rfl _ _ 28 rfl lo 104 (.agg (tnc Tn.zero)) 3 24 tnc Tryz.underlying28 (by kernel_rfl) rfl (by decide) qbO qdT _ s.trace rfl (GX.out.var.own.r.keeps ((Keeps.refl _).alloc _)) (by have:=GX.out.var.lob;have:=GX.out.var.box.lt;simp;omega) (⟨cpu,0,0⟩:Tn) _ 1 (Blk.new _ _ _) rfl ?c1 ?c2 ?_))
  case c1=>have:=Hrl.out;unfold maxLen;omega
  case c2=>have:=Hrl.out;omega
  intro v6 w6 o6 g6 f6
  obtain ⟨a6,c6,e6⟩:=o6.form qbO
  obtain ⟨m6,Hm6⟩:∃ m,Hid ((s.trace++[(⟨cpu,0,0⟩:Tn)]).length=m):=⟨_,rfl⟩
  rw [Hm6.out] at e6
  subst e6
  have f6':∀ q,(Value.slice a6 m6 c6).ownBlock=some q->(Value.slice ra rn rcap).ownBlock=some q∨X.heap.size <= q:=fun q hq=>(f6 q hq).imp id (fun e=>by rw [e];simp)
  have GY:Hid (VarG w lo ⟨⟨ta,tn,tcap⟩,⟨la,ln,lcap⟩,⟨ga,gn,gcap⟩,⟨fa,fn,fcap⟩,⟨ra,rn,rcap⟩⟩ vs (w6.setCell ⟨w.heap.size,8,none⟩ (.slice a6 m6 c6)) w.heap.size ⟨⟨ta,tn,tcap⟩,⟨la,ln,lcap⟩,⟨ga,gn,gcap⟩,⟨fa,fn,fcap⟩,⟨a6,m6,c6⟩⟩ vs { (s:Sy) with trace:=s.trace++[(⟨cpu,0,0⟩:Tn)] }):=GX.out.trace ((Keeps.refl X).alloc _) (x:=⟨a6,m6,c6⟩) o6 g6 (fun q hq=>(f6 q hq).imp id (fun e=>by rw [e];simp))
  have B6:Blk w6 w.heap.size (syc (s:Sy) ⟨⟨ta,tn,tcap⟩,⟨la,ln,lcap⟩,⟨ga,gn,gcap⟩,⟨fa,fn,fcap⟩,⟨ra,rn,rcap⟩⟩):=(GX.out.var.box.keeps ((Keeps.refl X).alloc _)).grown g6 (fun q e e2=>GX.out.var.far 4 (by rw [<- e2];exact e))
  have R6:Blk w6 (w.heap.size+1) zc:=(RX.out.keeps ((Keeps.refl X).alloc _)).grown g6 (fun q e e2=>FR.out 4 (by rw [<- e2];exact e))
  have FR2:Hid (∀ i,¬ qaf ⟨⟨ta,tn,tcap⟩,⟨la,ln,lcap⟩,⟨ga,gn,gcap⟩,⟨fa,fn,fcap⟩,⟨a6,m6,c6⟩⟩ vs i (w.heap.size+1)):=qfG FR.out f6' RX.out.lt
  have R7:Hid (Blk (w6.setCell ⟨w.heap.size,8,none⟩ (.slice a6 m6 c6)) (w.heap.size+1) zc):=R6.far (by omega) _
  obtain ⟨_,p1,p2⟩:=B6
  obtain ⟨_,r1,r2⟩:=R6
  dsimp only [syc] at p1
  clear o1 o2 n1 n2 o6 g6 f6 f6' GX TX RX FR
  go_wp2
  have GZ:=GY.out.elsewhere FR2.out (by omega) (by omega) (syc ({ (s:Sy) with trace:=s.trace++[(⟨cpu,0,0⟩:Tn)] }:Sy) ⟨⟨ta,tn,tcap⟩,⟨la,ln,lcap⟩,⟨ga,gn,gcap⟩,⟨fa,fn,fcap⟩,⟨a6,m6,c6⟩⟩).toList 0
  have D:=R7.out.putC (syc ({ (s:Sy) with trace:=s.trace++[(⟨cpu,0,0⟩:Tn)] }:Sy) ⟨⟨ta,tn,tcap⟩,⟨la,ln,lcap⟩,⟨ga,gn,gcap⟩,⟨fa,fn,fcap⟩,⟨a6,m6,c6⟩⟩).toList rfl
  change bodyPost _ _ _ _ _ (putC (w6.setCell ⟨w.heap.size,8,none⟩ (.slice a6 m6 c6)) (w.heap.size+1) 0 (syc ({ (s:Sy) with trace:=s.trace++[(⟨cpu,0,0⟩:Tn)] }:Sy) ⟨⟨ta,tn,tcap⟩,⟨la,ln,lcap⟩,⟨ga,gn,gcap⟩,⟨fa,fn,fcap⟩,⟨a6,m6,c6⟩⟩).toList)
  generalize putC (w6.setCell ⟨w.heap.size,8,none⟩ (.slice a6 m6 c6)) (w.heap.size+1) 0 (syc ({ (s:Sy) with trace:=s.trace++[(⟨cpu,0,0⟩:Tn)] }:Sy) ⟨⟨ta,tn,tcap⟩,⟨la,ln,lcap⟩,⟨ga,gn,gcap⟩,⟨fa,fn,fcap⟩,⟨a6,m6,c6⟩⟩).toList=Q at D GZ ⊢
  exact bodyPost_ret (v := .agg (syc ({ (s:Sy) with trace:=s.trace++[(⟨cpu,0,0⟩:Tn)] }:Sy) ⟨⟨ta,tn,tcap⟩,⟨la,ln,lcap⟩,⟨ga,gn,gcap⟩,⟨fa,fn,fcap⟩,⟨a6,m6,c6⟩⟩)) (by simp [results,Tryz.results180,go_sem,D.cells]) rfl ⟨⟨⟨ta,tn,tcap⟩,⟨la,ln,lcap⟩,⟨ga,gn,gcap⟩,⟨fa,fn,fcap⟩,⟨a6,m6,c6⟩⟩,by first | (rw [HT.out];done) | (rw [HT.out];rfl),vs,by rw [HT.out];exact GZ.goes⟩
 ·have G1':=G1.out
  obtain ⟨rb,hrb⟩:=G1'.var.own.tasksAt hk
  dsimp only at hrb
  subst hrb
  obtain ⟨z1,z2⟩:=G1'.var.own.taskCells (rb:=rb) rfl ht
  have hrbl:rb < w1.heap.size:=(G1'.var.own.blkLt (i:=0) (b:=rb) rfl).2
  have zr:∀ w',Keeps w1 w'->∀ j,j < 14->w'.cell? ⟨rb,k*14+j,none⟩=(tc t)[j]?:=fun w' kk j hj=>(kk.cells rb _ hrbl).trans (z1 j hj)
  have zr0:∀ w',Keeps w1 w'->w'.cell? ⟨rb,k*14,none⟩=some (.int .i64 t.no):=fun w' kk=>zr w' kk 0 (by omega)
  have hkn:(k:Int) < (tn:Int):=by have:=Hn.out;omega
  obtain ⟨xe,Hxe⟩:∃ x,Hid (qbB s.tasks s.locks t.no=x):=⟨_,rfl⟩
  obtain ⟨N1,HN1⟩:∃ N,Hid (qcp t=N):=⟨_,rfl⟩
  obtain ⟨N2,HN2⟩:∃ N,Hid (qcZ N1=N):=⟨_,rfl⟩
  obtain ⟨NT,HNT⟩:∃ N,Hid (qb1 N2 (s.seq+1)=N):=⟨_,rfl⟩
  obtain ⟨NB,HNB⟩:∃ N,Hid (qb0 N2 (s.seq+1)=N):=⟨_,rfl⟩
  have HT:Hid (qa0 s cpu={ (s:Sy) with seq:=if NB then s.seq+1 else s.seq,tasks:=s.tasks.set k NT,trace:=s.trace++[⟨cpu,t.no,xe⟩] }):=by
   show _=_
   unfold qa0 qeN qhD qhE
   rw [hp,if_neg (by omega),Int.toNat_natCast,List.getD_eq_getElem?_getD,ht,Option.getD_some,HN1.out,HN2.out,HNT.out,HNB.out,Hxe.out]
  have hw1:IntKind.i64.wrap (s.seq+1)=s.seq+1:=Go.IntWalk.i64_in _ (by omega)
  have HK:Hid (k < s.tasks.length):=hk
  have HTk:Hid (s.tasks[k]?=some t):=ht
  have b1:∀ w',Keeps w1 w'->∀ j,w'.cell? ⟨w.heap.size,j,none⟩=(syc s ⟨⟨some ⟨rb,0,none⟩,tn,tcap⟩,⟨la,ln,lcap⟩,⟨ga,gn,gcap⟩,⟨fa,fn,fcap⟩,⟨ra,rn,rcap⟩⟩)[j]?:=fun w' kk=>(G1'.var.box.keeps kk).cells
  dsimp only [syc] at b1
  rw [hp]
  have hsb:w.heap.size < w1.heap.size:=G1.out.var.box.lt
  have hs1:w.heap.size≠w1.heap.size:=by omega
  have hs2:w.heap.size≠w1.heap.size+1:=by omega
  clear hp hk ht z1 z2 G1'
  go_upto_region 6 with fail
  go_wp2_with fail
  clear hs1 hs2
  change Calls _ _ _ ((w1.alloc (.cells #[.int .i64 cpu,.int .i64 t.no,.int .i64 0] 104)).alloc (.cells (tc t) 43)) _
  have kY:Keeps w1 ((w1.alloc (.cells #[.int .i64 cpu,.int .i64 t.no,.int .i64 0] 104)).alloc (.cells (tc t) 43)):=((Keeps.refl _).alloc _).alloc _
  have TY:Hid (Blk ((w1.alloc (.cells #[.int .i64 cpu,.int .i64 t.no,.int .i64 0] 104)).alloc (.cells (tc t) 43)) w1.heap.size (tnc ⟨cpu,t.no,0⟩)):=(Blk.new _ _ _).alloc _
  have BY:Hid (Blk ((w1.alloc (.cells #[.int .i64 cpu,.int .i64 t.no,.int .i64 0] 104)).alloc (.cells (tc t) 43)) (w1.heap.size+1) (tc t)):=by
   have:=Blk.new (w1.alloc (.cells #[.int .i64 cpu,.int .i64 t.no,.int .i64 0] 104)) (tc t) 43
   show Blk _ _ _
   simpa using this
  have FT:Hid (∀ i,¬ qaf ⟨⟨some ⟨rb,0,none⟩,tn,tcap⟩,⟨la,ln,lcap⟩,⟨ga,gn,gcap⟩,⟨fa,fn,fcap⟩,⟨ra,rn,rcap⟩⟩ vs i w1.heap.size):=fun i hi=>by have:=(G1.out.var.own.blkLt hi).2;omega
  have hrx:w.heap.size+1 < w1.heap.size:=R1.out.lt
  generalize (w1.alloc (.cells #[.int .i64 cpu,.int .i64 t.no,.int .i64 0] 104)).alloc (.cells (tc t) 43)=Y at *
  generalize htb:w1.heap.size+1=tb at *
  generalize htn:w1.heap.size=tnb at *
  refine (qhj (S1.out.keeps kY).onT (S1.out.keeps kY).onL t.no).mono ?_
  rintro e w2 ⟨rfl,k2⟩
  rw [Hxe.out]
  have K2:Keeps w1 w2:=kY.trans k2
  obtain ⟨_,q1,q2⟩:=TY.out.keeps k2
  go_upto_region 7 with fail
  have TX1:Hid (Blk (w2.setCell ⟨tnb,2,none⟩ (.int .i64 xe)) tnb (tnc ⟨cpu,t.no,xe⟩)):=(TY.out.keeps k2).set 2 (by simp) _
  have BX1:Hid (Blk (w2.setCell ⟨tnb,2,none⟩ (.int .i64 xe)) tb (tc t)):=(BY.out.keeps k2).far (by omega) _
  have RX1:Hid (Blk (w2.setCell ⟨tnb,2,none⟩ (.int .i64 xe)) (w.heap.size+1) zc):=(R1.out.keeps K2).far (by omega) _
  have GX1:Hid (VarG w lo ⟨⟨some ⟨rb,0,none⟩,tn,tcap⟩,⟨la,ln,lcap⟩,⟨ga,gn,gcap⟩,⟨fa,fn,fcap⟩,⟨ra,rn,rcap⟩⟩ vs (w2.setCell ⟨tnb,2,none⟩ (.int .i64 xe)) w.heap.size ⟨⟨some ⟨rb,0,none⟩,tn,tcap⟩,⟨la,ln,lcap⟩,⟨ga,gn,gcap⟩,⟨fa,fn,fcap⟩,⟨ra,rn,rcap⟩⟩ vs s):=(G1.out.keeps K2).elsewhere FT.out (by omega) (by omega) [.int .i64 xe] 2
  clear q1 q2 TY BY R1 G1 S1 K2 k2 kY b1 zr zr0
  generalize w2.setCell ⟨tnb,2,none⟩ (.int .i64 xe)=X1 at *
  have c0:∀ w',Keeps X1 w'->∀ j,w'.cell? ⟨tb,j,none⟩=(tc t)[j]?:=fun w' kk=>(BX1.out.keeps kk).cells
  have c1:∀ w',Keeps X1 w'->∀ j,w'.cell? ⟨w.heap.size,j,none⟩=(syc s ⟨⟨some ⟨rb,0,none⟩,tn,tcap⟩,⟨la,ln,lcap⟩,⟨ga,gn,gcap⟩,⟨fa,fn,fcap⟩,⟨ra,rn,rcap⟩⟩)[j]?:=fun w' kk=>(GX1.out.var.box.keeps kk).cells
  dsimp only [syc] at c1
  go_cut [8,9] (fun c8 c9 wx=>∃ nb,c8 = .pointer (some ⟨nb,0,none⟩) /\ c9 = .bool NB /\ X1.heap.size <= nb /\ Hid (Blk wx nb (tc NT)) /\ Keeps X1 wx)
  case first =>
   refine wp_region_held_drew (S:=fun w'=>Keeps X1 w') (by kernel_rfl) ?_ (fun hHeld => ?_)
   ·exact (Keeps.refl X1).drew
   refine Plan.go [0,3,4,5] ?_
   iterate 4 (refine qac (by simp only [qab];rfl) (by kernel_rfl) (by exact fun _ _ _ h=>h) (by rfl) (by assumption) (fun w _=>by go_simp;try (with_reducible rfl)) ?_;try simp only [qaa])
   refine Plan.nil ?_
   refine wpAnyH_ready (rs:=[1,10]) (by kernel_rfl) (by simp) ?_
   refine AllReadyH.cons (by simp only [List.getElem?_toArray,List.getElem?_cons_succ,List.getElem?_cons_zero];rfl) (fun K hK => ?_) (AllReadyH.cons (by simp only [List.getElem?_toArray,List.getElem?_cons_succ,List.getElem?_cons_zero];rfl) (fun K hK => ?_) AllReadyH.nil)
   ·go_simp
    (go_at_call 206;refine (qfZ t _).mono ?_;rintro e w3 ⟨rfl,k3⟩;rw [HN1.out])
    try go_wp2_with fail
    refine hK.out _ _ ?_ (fun hHeld => ?_)
    ·exact Keeps.trans (by assumption) (by assumption)
    clear hK K
    try simp only [qaa]
    refine wpAnyH_ready (rs:=[2,10]) (by kernel_rfl) (by simp) ?_
    refine AllReadyH.cons (by simp only [List.getElem?_toArray,List.getElem?_cons_succ,List.getElem?_cons_zero];rfl) (fun K hK => ?_) (AllReadyH.cons (by simp only [List.getElem?_toArray,List.getElem?_cons_succ,List.getElem?_cons_zero];rfl) (fun K hK => ?_) AllReadyH.nil)
    ·go_simp
     (go_at_call 205;refine (qe0 N1 _).mono ?_;rintro e w4 ⟨rfl,k4⟩;rw [HN2.out])
     try go_wp2_with fail
     refine hK.out _ _ ?_ (fun hHeld => ?_)
     ·exact Keeps.trans (by assumption) (by assumption)
     clear hK K
     try simp only [qaa]
     refine wpAnyH_ready (rs:=[6,10]) (by kernel_rfl) (by simp) ?_
     refine AllReadyH.cons (by simp only [List.getElem?_toArray,List.getElem?_cons_succ,List.getElem?_cons_zero];rfl) (fun K hK => ?_) (AllReadyH.cons (by simp only [List.getElem?_toArray,List.getElem?_cons_succ,List.getElem?_cons_zero];rfl) (fun K hK => ?_) AllReadyH.nil)
     ·go_simp
      (go_at_call 204;refine (qet N2 (s.seq+1) _).mono ?_;rintro e w5 ⟨rfl,k5⟩;rw [HNT.out,HNB.out])
      try go_wp2_with fail
      refine hK.out _ _ ?_ (fun hHeld => ?_)
      ·exact Keeps.trans (by assumption) (by assumption)
      clear hK K
      try simp only [qaa]
      refine Plan.go [7,8,9] ?_
      iterate 3 (refine qac (by simp only [qab];rfl) (by kernel_rfl) (by exact fun _ _ _ h=>h) (by rfl) (by assumption) (fun w _=>by go_simp;try (with_reducible rfl)) ?_;try simp only [qaa])
      refine Plan.nil ?_
      refine qad 10 (by kernel_rfl) (by simp only [qab];rfl) (fun K hK => ?_)
      go_simp
      try go_wp2_with fail
      refine hK.out _ _ ?_ (fun hHeld => ?_)
      ·exact Keeps.alloc (by assumption) _
      clear hK K
      try simp only [qaa]
      refine qad 11 (by kernel_rfl) (by simp only [qab];rfl) (fun K hK => ?_)
      have hnb:X1.heap.size <= w5.heap.size:=Keeps.size (by assumption:Keeps X1 w5)
      go_simp
      try go_wp2_with fail
      refine hK.out _ (w5.alloc (.cells (tc NT) 43)) ?_ (fun hHeld => ?_)
      ·exact Keeps.alloc (by assumption) _
      clear hK K
      try simp only [qaa]
      have hBN:Hid (Blk (w5.alloc (.cells (tc NT) 43)) (w5.heap.size) (tc NT)):=Blk.new _ _ _
      generalize w5.alloc (.cells (tc NT) 43)=XW at *
      refine qar 12 (v := ?_) (by simp only [qab];rfl) (by kernel_rfl) (by exact fun _ _ _ h=>h) (by rfl) (by assumption) ?_ ?_
      rotate_left
      ·(intro w _;go_simp;try (with_reducible rfl))
      try simp only [qaa]
      refine wpAnyH_done (by kernel_rfl) ?_ _
      go_wp2_with fail
      go_meet
      exact ⟨(w5.heap.size),rfl,rfl,hnb,hBN,by assumption⟩
     ·go_simp
      try go_wp2_with fail
      refine hK.out _ _ ?_ (fun hHeld => ?_)
      ·exact Keeps.alloc (by assumption) _
      clear hK K
      try simp only [qaa]
      refine qad 6 (by kernel_rfl) (by simp only [qab];rfl) (fun K hK => ?_)
      go_simp
      (go_at_call 204;refine (qet N2 (s.seq+1) _).mono ?_;rintro e w5 ⟨rfl,k5⟩;rw [HNT.out,HNB.out])
      try go_wp2_with fail
      refine hK.out _ _ ?_ (fun hHeld => ?_)
      ·exact Keeps.trans (by assumption) (by assumption)
      clear hK K
      try simp only [qaa]
      refine Plan.go [7,8,9] ?_
      iterate 3 (refine qac (by simp only [qab];rfl) (by kernel_rfl) (by exact fun _ _ _ h=>h) (by rfl) (by assumption) (fun w _=>by go_simp;try (with_reducible rfl)) ?_;try simp only [qaa])
      refine Plan.nil ?_
      refine qad 11 (by kernel_rfl) (by simp only [qab];rfl) (fun K hK => ?_)
      have BN0:Blk w5 (w4.heap.size) (tc Tsk.zero):=(Blk.new (w4) (tc Tsk.zero) 43).keeps (k5)
      have HBN:Hid (Blk w5 (w4.heap.size) (tc Tsk.zero)):=BN0
      obtain ⟨_,ee1,ee2⟩:=BN0
      have hnb:X1.heap.size <= w4.heap.size:=Keeps.size (by assumption:Keeps X1 w4)
      go_simp
      try go_wp2_with fail
      refine hK.out _ (putC w5 (w4.heap.size) 0 (tc NT).toList) ?_ (fun hHeld => ?_)
      ·exact Keeps.putC (b:=w4.heap.size) hnb (tc NT).toList 0 (by assumption)
      clear hK K
      try simp only [qaa]
      have hBN:Hid (Blk (putC w5 (w4.heap.size) 0 (tc NT).toList) (w4.heap.size) (tc NT)):=HBN.out.putC (tc NT).toList rfl
      clear ee1 ee2 HBN
      generalize putC w5 (w4.heap.size) 0 (tc NT).toList=XW at *
      refine qar 12 (v := ?_) (by simp only [qab];rfl) (by kernel_rfl) (by exact fun _ _ _ h=>h) (by rfl) (by assumption) ?_ ?_
      rotate_left
      ·(intro w _;go_simp;try (with_reducible rfl))
      try simp only [qaa]
      refine wpAnyH_done (by kernel_rfl) ?_ _
      go_wp2_with fail
      go_meet
      exact ⟨(w4.heap.size),rfl,rfl,hnb,hBN,by assumption⟩
    ·go_simp
     try go_wp2_with fail
     refine hK.out _ _ ?_ (fun hHeld => ?_)
     ·exact Keeps.alloc (by assumption) _
     clear hK K
     try simp only [qaa]
     refine qad 2 (by kernel_rfl) (by simp only [qab];rfl) (fun K hK => ?_)
     go_simp
     (go_at_call 205;refine (qe0 N1 _).mono ?_;rintro e w4 ⟨rfl,k4⟩;rw [HN2.out])
     try go_wp2_with fail
     refine hK.out _ _ ?_ (fun hHeld => ?_)
     ·exact Keeps.trans (by assumption) (by assumption)
     clear hK K
     try simp only [qaa]
     refine qad 6 (by kernel_rfl) (by simp only [qab];rfl) (fun K hK => ?_)
     go_simp
     (go_at_call 204;refine (qet N2 (s.seq+1) _).mono ?_;rintro e w5 ⟨rfl,k5⟩;rw [HNT.out,HNB.out])
     try go_wp2_with fail
     refine hK.out _ _ ?_ (fun hHeld => ?_)
     ·exact Keeps.trans (by assumption) (by assumption)
     clear hK K
     try simp only [qaa]
     refine Plan.go [7,8,9] ?_
     iterate 3 (refine qac (by simp only [qab];rfl) (by kernel_rfl) (by exact fun _ _ _ h=>h) (by rfl) (by assumption) (fun w _=>by go_simp;try (with_reducible rfl)) ?_;try simp only [qaa])
     refine Plan.nil ?_
     refine qad 11 (by kernel_rfl) (by simp only [qab];rfl) (fun K hK => ?_)
     have BN0:Blk w5 (w3.heap.size) (tc Tsk.zero):=(Blk.new (w3) (tc Tsk.zero) 43).keeps ((k4).trans k5)
     have HBN:Hid (Blk w5 (w3.heap.size) (tc Tsk.zero)):=BN0
     obtain ⟨_,ee1,ee2⟩:=BN0
     have hnb:X1.heap.size <= w3.heap.size:=Keeps.size (by assumption:Keeps X1 w3)
     go_simp
     try go_wp2_with fail
     refine hK.out _ (putC w5 (w3.heap.size) 0 (tc NT).toList) ?_ (fun hHeld => ?_)
     ·exact Keeps.putC (b:=w3.heap.size) hnb (tc NT).toList 0 (by assumption)
     clear hK K
     try simp only [qaa]
     have hBN:Hid (Blk (putC w5 (w3.heap.size) 0 (tc NT).toList) (w3.heap.size) (tc NT)):=HBN.out.putC (tc NT).toList rfl
     clear ee1 ee2 HBN
     generalize putC w5 (w3.heap.size) 0 (tc NT).toList=XW at *
     refine qar 12 (v := ?_) (by simp only [qab];rfl) (by kernel_rfl) (by exact fun _ _ _ h=>h) (by rfl) (by assumption) ?_ ?_
     rotate_left
     ·(intro w _;go_simp;try (with_reducible rfl))
     try simp only [qaa]
     refine wpAnyH_done (by kernel_rfl) ?_ _
     go_wp2_with fail
     go_meet
     exact ⟨(w3.heap.size),rfl,rfl,hnb,hBN,by assumption⟩
   ·go_simp
    try go_wp2_with fail
    refine hK.out _ _ ?_ (fun hHeld => ?_)
    ·exact Keeps.alloc (by assumption) _
    clear hK K
    try simp only [qaa]
    refine qad 1 (by kernel_rfl) (by simp only [qab];rfl) (fun K hK => ?_)
    go_simp
    (go_at_call 206;refine (qfZ t _).mono ?_;rintro e w3 ⟨rfl,k3⟩;rw [HN1.out])
    try go_wp2_with fail
    refine hK.out _ _ ?_ (fun hHeld => ?_)
    ·exact Keeps.trans (by assumption) (by assumption)
    clear hK K
    try simp only [qaa]
    refine qad 2 (by kernel_rfl) (by simp only [qab];rfl) (fun K hK => ?_)
    go_simp
    (go_at_call 205;refine (qe0 N1 _).mono ?_;rintro e w4 ⟨rfl,k4⟩;rw [HN2.out])
    try go_wp2_with fail
    refine hK.out _ _ ?_ (fun hHeld => ?_)
    ·exact Keeps.trans (by assumption) (by assumption)
    clear hK K
    try simp only [qaa]
    refine qad 6 (by kernel_rfl) (by simp only [qab];rfl) (fun K hK => ?_)
    go_simp
    (go_at_call 204;refine (qet N2 (s.seq+1) _).mono ?_;rintro e w5 ⟨rfl,k5⟩;rw [HNT.out,HNB.out])
    try go_wp2_with fail
    refine hK.out _ _ ?_ (fun hHeld => ?_)
    ·exact Keeps.trans (by assumption) (by assumption)
    clear hK K
    try simp only [qaa]
    refine Plan.go [7,8,9] ?_
    iterate 3 (refine qac (by simp only [qab];rfl) (by kernel_rfl) (by exact fun _ _ _ h=>h) (by rfl) (by assumption) (fun w _=>by go_simp;try (with_reducible rfl)) ?_;try simp only [qaa])
    refine Plan.nil ?_
    refine qad 11 (by kernel_rfl) (by simp only [qab];rfl) (fun K hK => ?_)
    have BN0:Blk w5 (X1.heap.size) (tc Tsk.zero):=(Blk.new (X1.drew) (tc Tsk.zero) 43).keeps (((k3).trans k4).trans k5)
    have HBN:Hid (Blk w5 (X1.heap.size) (tc Tsk.zero)):=BN0
    obtain ⟨_,ee1,ee2⟩:=BN0
    have hnb:X1.heap.size <= X1.heap.size:=Nat.le_refl _
    go_simp
    try go_wp2_with fail
    refine hK.out _ (putC w5 (X1.heap.size) 0 (tc NT).toList) ?_ (fun hHeld => ?_)
    ·exact Keeps.putC (b:=X1.heap.size) hnb (tc NT).toList 0 (by assumption)
    clear hK K
    try simp only [qaa]
    have hBN:Hid (Blk (putC w5 (X1.heap.size) 0 (tc NT).toList) (X1.heap.size) (tc NT)):=HBN.out.putC (tc NT).toList rfl
    clear ee1 ee2 HBN
    generalize putC w5 (X1.heap.size) 0 (tc NT).toList=XW at *
    refine qar 12 (v := ?_) (by simp only [qab];rfl) (by kernel_rfl) (by exact fun _ _ _ h=>h) (by rfl) (by assumption) ?_ ?_
    rotate_left
    ·(intro w _;go_simp;try (with_reducible rfl))
    try simp only [qaa]
    refine wpAnyH_done (by kernel_rfl) ?_ _
    go_wp2_with fail
    go_meet
    exact ⟨(X1.heap.size),rfl,rfl,hnb,hBN,by assumption⟩
  case rest =>
  obtain ⟨nb,rfl,rfl,hnb,BN,KX⟩:=hcut
  have GX2:Hid (VarG w lo ⟨⟨some ⟨rb,0,none⟩,tn,tcap⟩,⟨la,ln,lcap⟩,⟨ga,gn,gcap⟩,⟨fa,fn,fcap⟩,⟨ra,rn,rcap⟩⟩ vs wc w.heap.size ⟨⟨some ⟨rb,0,none⟩,tn,tcap⟩,⟨la,ln,lcap⟩,⟨ga,gn,gcap⟩,⟨fa,fn,fcap⟩,⟨ra,rn,rcap⟩⟩ vs s):=GX1.out.keeps KX
  have TX2:Hid (Blk wc tnb (tnc ⟨cpu,t.no,xe⟩)):=TX1.out.keeps KX
  have RX2:Hid (Blk wc (w.heap.size+1) zc):=RX1.out.keeps KX
  have hnb2:nb≠w.heap.size:=by have:=GX1.out.var.box.lt;omega
  clear GX1 TX1 RX1 BX1 c0 c1 KX
  cases NB
  ·simp only [Bool.false_eq_true,if_false] at HT
   have zz:=GX2.out.var.own.taskCells (rb:=rb) rfl (k:=k) (t:=t) HTk.out
   obtain ⟨z1,z2⟩:=zz
   have y0:wc.cell? ⟨rb,k*14,none⟩=some (.int .i64 t.no):=z1 0 (by omega)
   obtain ⟨_,o1,o2⟩:=GX2.out.var.box
   dsimp only [syc] at o1
   obtain ⟨_,n1,n2⟩:=BN.out
   go_upto_region 11 with fail
   have hrb1:rb≠tnb:=fun e=>FT.out 0 (by rw [<- e];rfl)
   have hrb2:rb≠w.heap.size+1:=fun e=>FR.out 0 (by rw [<- e];rfl)
   have GX:Hid (VarG w lo ⟨⟨some ⟨rb,0,none⟩,tn,tcap⟩,⟨la,ln,lcap⟩,⟨ga,gn,gcap⟩,⟨fa,fn,fcap⟩,⟨ra,rn,rcap⟩⟩ vs (putC wc rb (k*14) (tc NT).toList) w.heap.size ⟨⟨some ⟨rb,0,none⟩,tn,tcap⟩,⟨la,ln,lcap⟩,⟨ga,gn,gcap⟩,⟨fa,fn,fcap⟩,⟨ra,rn,rcap⟩⟩ vs { s with tasks:=s.tasks.set k NT }):=GX2.out.task (rb:=rb) rfl HK.out NT
   have TX:Hid (Blk (putC wc rb (k*14) (tc NT).toList) tnb (tnc ⟨cpu,t.no,xe⟩)):=Blk.farC hrb1 _ _ TX2.out
   have RX:Hid (Blk (putC wc rb (k*14) (tc NT).toList) (w.heap.size+1) zc):=Blk.farC hrb2 _ _ RX2.out
   change Code.wp _ _ _ _ (putC wc rb (k*14) (tc NT).toList)
   clear z1 z2 y0 o1 o2 n1 n2 GX2 TX2 RX2 BN
   generalize putC wc rb (k*14) (tc NT).toList=X at *
   obtain ⟨_,o1,o2⟩:=GX.out.var.box
   dsimp only [syc] at o1
   obtain ⟨_,n1,n2⟩:=TX.out
   go_wp2_with (at_builtin;(refine qc8 rfl _ _ 28 rfl lo 104 (.agg (tnc Tn.zero)) 3 24 tnc Tryz.underlying28 (by kernel_rfl) rfl (by decide) qbO qdT _ s.trace rfl (GX.out.var.own.r.keeps ((Keeps.refl _).alloc _)) (by have:=GX.out.var.lob;have:=GX.out.var.box.lt;simp;omega) (⟨cpu,t.no,xe⟩:Tn) _ 1 (Blk.new _ _ _) rfl ?c1 ?c2 ?_))
   case c1=>have:=Hrl.out;unfold maxLen;omega
   case c2=>have:=Hrl.out;omega
   intro v6 w6 o6 g6 f6
   obtain ⟨a6,c6,e6⟩:=o6.form qbO
   obtain ⟨m6,Hm6⟩:∃ m,Hid ((s.trace++[(⟨cpu,t.no,xe⟩:Tn)]).length=m):=⟨_,rfl⟩
   rw [Hm6.out] at e6
   subst e6
   have f6':∀ q,(Value.slice a6 m6 c6).ownBlock=some q->(Value.slice ra rn rcap).ownBlock=some q∨X.heap.size <= q:=fun q hq=>(f6 q hq).imp id (fun e=>by rw [e];simp)
   have GY:Hid (VarG w lo ⟨⟨some ⟨rb,0,none⟩,tn,tcap⟩,⟨la,ln,lcap⟩,⟨ga,gn,gcap⟩,⟨fa,fn,fcap⟩,⟨ra,rn,rcap⟩⟩ vs (w6.setCell ⟨w.heap.size,8,none⟩ (.slice a6 m6 c6)) w.heap.size ⟨⟨some ⟨rb,0,none⟩,tn,tcap⟩,⟨la,ln,lcap⟩,⟨ga,gn,gcap⟩,⟨fa,fn,fcap⟩,⟨a6,m6,c6⟩⟩ vs { ({ s with tasks:=s.tasks.set k NT }:Sy) with trace:=s.trace++[(⟨cpu,t.no,xe⟩:Tn)] }):=GX.out.trace ((Keeps.refl X).alloc _) (x:=⟨a6,m6,c6⟩) o6 g6 (fun q hq=>(f6 q hq).imp id (fun e=>by rw [e];simp))
   have B6:Blk w6 w.heap.size (syc ({ s with tasks:=s.tasks.set k NT }:Sy) ⟨⟨some ⟨rb,0,none⟩,tn,tcap⟩,⟨la,ln,lcap⟩,⟨ga,gn,gcap⟩,⟨fa,fn,fcap⟩,⟨ra,rn,rcap⟩⟩):=(GX.out.var.box.keeps ((Keeps.refl X).alloc _)).grown g6 (fun q e e2=>GX.out.var.far 4 (by rw [<- e2];exact e))
   have R6:Blk w6 (w.heap.size+1) zc:=(RX.out.keeps ((Keeps.refl X).alloc _)).grown g6 (fun q e e2=>FR.out 4 (by rw [<- e2];exact e))
   have FR2:Hid (∀ i,¬ qaf ⟨⟨some ⟨rb,0,none⟩,tn,tcap⟩,⟨la,ln,lcap⟩,⟨ga,gn,gcap⟩,⟨fa,fn,fcap⟩,⟨a6,m6,c6⟩⟩ vs i (w.heap.size+1)):=qfG FR.out f6' RX.out.lt
   have R7:Hid (Blk (w6.setCell ⟨w.heap.size,8,none⟩ (.slice a6 m6 c6)) (w.heap.size+1) zc):=R6.far (by omega) _
   obtain ⟨_,p1,p2⟩:=B6
   obtain ⟨_,r1,r2⟩:=R6
   dsimp only [syc] at p1
   clear o1 o2 n1 n2 o6 g6 f6 f6' GX TX RX FR
   go_wp2
   have GZ:=GY.out.elsewhere FR2.out (by omega) (by omega) (syc ({ ({ s with tasks:=s.tasks.set k NT }:Sy) with trace:=s.trace++[(⟨cpu,t.no,xe⟩:Tn)] }:Sy) ⟨⟨some ⟨rb,0,none⟩,tn,tcap⟩,⟨la,ln,lcap⟩,⟨ga,gn,gcap⟩,⟨fa,fn,fcap⟩,⟨a6,m6,c6⟩⟩).toList 0
   have D:=R7.out.putC (syc ({ ({ s with tasks:=s.tasks.set k NT }:Sy) with trace:=s.trace++[(⟨cpu,t.no,xe⟩:Tn)] }:Sy) ⟨⟨some ⟨rb,0,none⟩,tn,tcap⟩,⟨la,ln,lcap⟩,⟨ga,gn,gcap⟩,⟨fa,fn,fcap⟩,⟨a6,m6,c6⟩⟩).toList rfl
   change bodyPost _ _ _ _ _ (putC (w6.setCell ⟨w.heap.size,8,none⟩ (.slice a6 m6 c6)) (w.heap.size+1) 0 (syc ({ ({ s with tasks:=s.tasks.set k NT }:Sy) with trace:=s.trace++[(⟨cpu,t.no,xe⟩:Tn)] }:Sy) ⟨⟨some ⟨rb,0,none⟩,tn,tcap⟩,⟨la,ln,lcap⟩,⟨ga,gn,gcap⟩,⟨fa,fn,fcap⟩,⟨a6,m6,c6⟩⟩).toList)
   generalize putC (w6.setCell ⟨w.heap.size,8,none⟩ (.slice a6 m6 c6)) (w.heap.size+1) 0 (syc ({ ({ s with tasks:=s.tasks.set k NT }:Sy) with trace:=s.trace++[(⟨cpu,t.no,xe⟩:Tn)] }:Sy) ⟨⟨some ⟨rb,0,none⟩,tn,tcap⟩,⟨la,ln,lcap⟩,⟨ga,gn,gcap⟩,⟨fa,fn,fcap⟩,⟨a6,m6,c6⟩⟩).toList=Q at D GZ ⊢
   exact bodyPost_ret (v := .agg (syc ({ ({ s with tasks:=s.tasks.set k NT }:Sy) with trace:=s.trace++[(⟨cpu,t.no,xe⟩:Tn)] }:Sy) ⟨⟨some ⟨rb,0,none⟩,tn,tcap⟩,⟨la,ln,lcap⟩,⟨ga,gn,gcap⟩,⟨fa,fn,fcap⟩,⟨a6,m6,c6⟩⟩)) (by simp [results,Tryz.results180,go_sem,D.cells]) rfl ⟨⟨⟨some ⟨rb,0,none⟩,tn,tcap⟩,⟨la,ln,lcap⟩,⟨ga,gn,gcap⟩,⟨fa,fn,fcap⟩,⟨a6,m6,c6⟩⟩,by first | (rw [HT.out];done) | (rw [HT.out];rfl),vs,by rw [HT.out];exact GZ.goes⟩
  ·simp only [if_true] at HT
   obtain ⟨_,o1,o2⟩:=GX2.out.var.box
   dsimp only [syc] at o1
   go_upto_region 10 with fail
   have GX3:Hid (VarG w lo ⟨⟨some ⟨rb,0,none⟩,tn,tcap⟩,⟨la,ln,lcap⟩,⟨ga,gn,gcap⟩,⟨fa,fn,fcap⟩,⟨ra,rn,rcap⟩⟩ vs (wc.setCell ⟨w.heap.size,6,none⟩ (.int .i64 (s.seq+1))) w.heap.size ⟨⟨some ⟨rb,0,none⟩,tn,tcap⟩,⟨la,ln,lcap⟩,⟨ga,gn,gcap⟩,⟨fa,fn,fcap⟩,⟨ra,rn,rcap⟩⟩ vs { s with seq:=s.seq+1 }):=GX2.out.num s.now s.cpus (s.seq+1) s.missed (k:=6) rfl (by omega)
   have TX3:Hid (Blk (wc.setCell ⟨w.heap.size,6,none⟩ (.int .i64 (s.seq+1))) tnb (tnc ⟨cpu,t.no,xe⟩)):=TX2.out.far (by omega) _
   have RX3:Hid (Blk (wc.setCell ⟨w.heap.size,6,none⟩ (.int .i64 (s.seq+1))) (w.heap.size+1) zc):=RX2.out.far (by omega) _
   have BN3:Hid (Blk (wc.setCell ⟨w.heap.size,6,none⟩ (.int .i64 (s.seq+1))) nb (tc NT)):=BN.out.far (by omega) _
   clear o1 o2 GX2 TX2 RX2 BN
   generalize wc.setCell ⟨w.heap.size,6,none⟩ (.int .i64 (s.seq+1))=X3 at *
   have GX2:=GX3
   have TX2:=TX3
   have RX2:=RX3
   have BN:=BN3
   clear GX3 TX3 RX3 BN3
   have zz:=GX2.out.var.own.taskCells (rb:=rb) rfl (k:=k) (t:=t) HTk.out
   obtain ⟨z1,z2⟩:=zz
   have y0:X3.cell? ⟨rb,k*14,none⟩=some (.int .i64 t.no):=z1 0 (by omega)
   obtain ⟨_,o1,o2⟩:=GX2.out.var.box
   dsimp only [syc] at o1
   obtain ⟨_,n1,n2⟩:=BN.out
   go_upto_region 11 with fail
   have hrb1:rb≠tnb:=fun e=>FT.out 0 (by rw [<- e];rfl)
   have hrb2:rb≠w.heap.size+1:=fun e=>FR.out 0 (by rw [<- e];rfl)
   have GX:Hid (VarG w lo ⟨⟨some ⟨rb,0,none⟩,tn,tcap⟩,⟨la,ln,lcap⟩,⟨ga,gn,gcap⟩,⟨fa,fn,fcap⟩,⟨ra,rn,rcap⟩⟩ vs (putC X3 rb (k*14) (tc NT).toList) w.heap.size ⟨⟨some ⟨rb,0,none⟩,tn,tcap⟩,⟨la,ln,lcap⟩,⟨ga,gn,gcap⟩,⟨fa,fn,fcap⟩,⟨ra,rn,rcap⟩⟩ vs { s with seq:=s.seq+1,tasks:=s.tasks.set k NT }):=GX2.out.task (rb:=rb) rfl HK.out NT
   have TX:Hid (Blk (putC X3 rb (k*14) (tc NT).toList) tnb (tnc ⟨cpu,t.no,xe⟩)):=Blk.farC hrb1 _ _ TX2.out
   have RX:Hid (Blk (putC X3 rb (k*14) (tc NT).toList) (w.heap.size+1) zc):=Blk.farC hrb2 _ _ RX2.out
   change Code.wp _ _ _ _ (putC X3 rb (k*14) (tc NT).toList)
   clear z1 z2 y0 o1 o2 n1 n2 GX2 TX2 RX2 BN
   generalize putC X3 rb (k*14) (tc NT).toList=X at *
   obtain ⟨_,o1,o2⟩:=GX.out.var.box
   dsimp only [syc] at o1
   obtain ⟨_,n1,n2⟩:=TX.out
   go_wp2_with (at_builtin;(refine qc8 rfl _ _ 28 rfl lo 104 (.agg (tnc Tn.zero)) 3 24 tnc Tryz.underlying28 (by kernel_rfl) rfl (by decide) qbO qdT _ s.trace rfl (GX.out.var.own.r.keeps ((Keeps.refl _).alloc _)) (by have:=GX.out.var.lob;have:=GX.out.var.box.lt;simp;omega) (⟨cpu,t.no,xe⟩:Tn) _ 1 (Blk.new _ _ _) rfl ?c1 ?c2 ?_))
   case c1=>have:=Hrl.out;unfold maxLen;omega
   case c2=>have:=Hrl.out;omega
   intro v6 w6 o6 g6 f6
   obtain ⟨a6,c6,e6⟩:=o6.form qbO
   obtain ⟨m6,Hm6⟩:∃ m,Hid ((s.trace++[(⟨cpu,t.no,xe⟩:Tn)]).length=m):=⟨_,rfl⟩
   rw [Hm6.out] at e6
   subst e6
   have f6':∀ q,(Value.slice a6 m6 c6).ownBlock=some q->(Value.slice ra rn rcap).ownBlock=some q∨X.heap.size <= q:=fun q hq=>(f6 q hq).imp id (fun e=>by rw [e];simp)
   have GY:Hid (VarG w lo ⟨⟨some ⟨rb,0,none⟩,tn,tcap⟩,⟨la,ln,lcap⟩,⟨ga,gn,gcap⟩,⟨fa,fn,fcap⟩,⟨ra,rn,rcap⟩⟩ vs (w6.setCell ⟨w.heap.size,8,none⟩ (.slice a6 m6 c6)) w.heap.size ⟨⟨some ⟨rb,0,none⟩,tn,tcap⟩,⟨la,ln,lcap⟩,⟨ga,gn,gcap⟩,⟨fa,fn,fcap⟩,⟨a6,m6,c6⟩⟩ vs { ({ s with seq:=s.seq+1,tasks:=s.tasks.set k NT }:Sy) with trace:=s.trace++[(⟨cpu,t.no,xe⟩:Tn)] }):=GX.out.trace ((Keeps.refl X).alloc _) (x:=⟨a6,m6,c6⟩) o6 g6 (fun q hq=>(f6 q hq).imp id (fun e=>by rw [e];simp))
   have B6:Blk w6 w.heap.size (syc ({ s with seq:=s.seq+1,tasks:=s.tasks.set k NT }:Sy) ⟨⟨some ⟨rb,0,none⟩,tn,tcap⟩,⟨la,ln,lcap⟩,⟨ga,gn,gcap⟩,⟨fa,fn,fcap⟩,⟨ra,rn,rcap⟩⟩):=(GX.out.var.box.keeps ((Keeps.refl X).alloc _)).grown g6 (fun q e e2=>GX.out.var.far 4 (by rw [<- e2];exact e))
   have R6:Blk w6 (w.heap.size+1) zc:=(RX.out.keeps ((Keeps.refl X).alloc _)).grown g6 (fun q e e2=>FR.out 4 (by rw [<- e2];exact e))
   have FR2:Hid (∀ i,¬ qaf ⟨⟨some ⟨rb,0,none⟩,tn,tcap⟩,⟨la,ln,lcap⟩,⟨ga,gn,gcap⟩,⟨fa,fn,fcap⟩,⟨a6,m6,c6⟩⟩ vs i (w.heap.size+1)):=qfG FR.out f6' RX.out.lt
   have R7:Hid (Blk (w6.setCell ⟨w.heap.size,8,none⟩ (.slice a6 m6 c6)) (w.heap.size+1) zc):=R6.far (by omega) _
   obtain ⟨_,p1,p2⟩:=B6
   obtain ⟨_,r1,r2⟩:=R6
   dsimp only [syc] at p1
   clear o1 o2 n1 n2 o6 g6 f6 f6' GX TX RX FR
   go_wp2
   have GZ:=GY.out.elsewhere FR2.out (by omega) (by omega) (syc ({ ({ s with seq:=s.seq+1,tasks:=s.tasks.set k NT }:Sy) with trace:=s.trace++[(⟨cpu,t.no,xe⟩:Tn)] }:Sy) ⟨⟨some ⟨rb,0,none⟩,tn,tcap⟩,⟨la,ln,lcap⟩,⟨ga,gn,gcap⟩,⟨fa,fn,fcap⟩,⟨a6,m6,c6⟩⟩).toList 0
   have D:=R7.out.putC (syc ({ ({ s with seq:=s.seq+1,tasks:=s.tasks.set k NT }:Sy) with trace:=s.trace++[(⟨cpu,t.no,xe⟩:Tn)] }:Sy) ⟨⟨some ⟨rb,0,none⟩,tn,tcap⟩,⟨la,ln,lcap⟩,⟨ga,gn,gcap⟩,⟨fa,fn,fcap⟩,⟨a6,m6,c6⟩⟩).toList rfl
   change bodyPost _ _ _ _ _ (putC (w6.setCell ⟨w.heap.size,8,none⟩ (.slice a6 m6 c6)) (w.heap.size+1) 0 (syc ({ ({ s with seq:=s.seq+1,tasks:=s.tasks.set k NT }:Sy) with trace:=s.trace++[(⟨cpu,t.no,xe⟩:Tn)] }:Sy) ⟨⟨some ⟨rb,0,none⟩,tn,tcap⟩,⟨la,ln,lcap⟩,⟨ga,gn,gcap⟩,⟨fa,fn,fcap⟩,⟨a6,m6,c6⟩⟩).toList)
   generalize putC (w6.setCell ⟨w.heap.size,8,none⟩ (.slice a6 m6 c6)) (w.heap.size+1) 0 (syc ({ ({ s with seq:=s.seq+1,tasks:=s.tasks.set k NT }:Sy) with trace:=s.trace++[(⟨cpu,t.no,xe⟩:Tn)] }:Sy) ⟨⟨some ⟨rb,0,none⟩,tn,tcap⟩,⟨la,ln,lcap⟩,⟨ga,gn,gcap⟩,⟨fa,fn,fcap⟩,⟨a6,m6,c6⟩⟩).toList=Q at D GZ ⊢
   exact bodyPost_ret (v := .agg (syc ({ ({ s with seq:=s.seq+1,tasks:=s.tasks.set k NT }:Sy) with trace:=s.trace++[(⟨cpu,t.no,xe⟩:Tn)] }:Sy) ⟨⟨some ⟨rb,0,none⟩,tn,tcap⟩,⟨la,ln,lcap⟩,⟨ga,gn,gcap⟩,⟨fa,fn,fcap⟩,⟨a6,m6,c6⟩⟩)) (by simp [results,Tryz.results180,go_sem,D.cells]) rfl ⟨⟨⟨some ⟨rb,0,none⟩,tn,tcap⟩,⟨la,ln,lcap⟩,⟨ga,gn,gcap⟩,⟨fa,fn,fcap⟩,⟨a6,m6,c6⟩⟩,by first | (rw [HT.out];done) | (rw [HT.out];rfl),vs,by rw [HT.out];exact GZ.goes⟩
end Go.Proofs.YteagpjlgjfaclaaGreatDoor
