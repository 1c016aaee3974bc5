/-
  Calls: a system of one's own in a variable, and a cell for
-/
import Derived.Test.YthpdlbcdbncnhaaGreatDoorGSys6
import Derived.Test.YthpdlbcdbncnhaaGreatDoorGSys4
import Derived.Test.YthpdlbcdbncnhaaGreatDoorGPure2
import Derived.Test.YthpdlbcdbncnhaaGreatDoorGSys1
import Derived.Test.YthpdlbcdbncnhaaGreatDoorGDraw2
import Derived.Test.YthpdlbcdbncnhaaGreatDoorGLock1
import Derived.Test.YthpdlbcdbncnhaaGreatDoorSysTurn
import Derived.Test.YthpdlbcdbncnhaaGreatDoorGTask2
import Derived.Test.YthpdlbcdbncnhaaGreatDoorGTask3
import Derived.Test.YthpdlbcdbncnhaaGreatDoorGBase2
import Derived.Deep.RegionHeld3
import Derived.Test.YthpdlbcdbncnhaaGreatDoorGBase1
namespace Go.Proofs.YthpdlbcdbncnhaaGreatDoor
set_option maxRecDepth 100000
open Go.RowKit
theorem VarG.locks {w0 w:World} {lo ob:Nat} {v0 v:Sv} {vs0 vs:List Lv} {s:Sy} {w1:World} (h:VarG w0 lo v0 vs0 w ob v vs s) (k:Keeps w w1) {x:Rw} {vs':List Lv} {ls:List Lk} (L:Mine w1 w.heap.size w1.heap.size x.val vs' ls) :
  VarG w0 lo v0 vs0 (w1.setCell ⟨ob,3,none⟩ x.val) ob { v with l:=x } vs' { s with locks:=ls }:=by
 have h1:=h.keeps k
 have hob:=h.var.box.lt
 have hlo:lo <= w.heap.size:=Nat.le_trans h.var.lob (Nat.le_of_lt hob)
 have f:∀ b,qef x.val vs' b->w.heap.size <= b:=fun b hb=>(L.blkLt hb).1
 have S2:OwnS w1 lo { v with l:=x } vs' { s with locks:=ls }:=h.var.own.setL (fun b hb _=>Below.block k b hb) x ls (L.widen hlo (Nat.le_refl _)) fun b hb => .inr (f b hb)
 have far2:∀ i,¬ qah { v with l:=x } vs' i ob:=by
  intro i hi
  match i,hi with
  | 0,hi=>exact h.var.far 0 hi
  | 1,hi=>have:=f ob hi;omega
  | 2,hi=>exact h.var.far 2 hi
  | 3,hi=>exact h.var.far 3 hi
  | 4,hi=>exact h.var.far 4 hi
 have O3:OwnS (w1.setCell ⟨ob,3,none⟩ x.val) lo { v with l:=x } vs' { s with locks:=ls }:=S2.far far2 _
 refine ⟨⟨h1.var.box.set 3 (by simp) x.val,O3,h.var.lob,far2⟩,h1.goes.step O3 (TurnsB.putC (.inr h.new) [x.val] 3 (TurnsB.refl _ _)) fun i b hb => ?_,h.new⟩
 match i,hb with
 | 0,hb=>exact .inl ⟨0,hb⟩
 | 1,hb=>exact .inr (Nat.le_trans h.goes.turn.size (f b hb))
 | 2,hb=>exact .inl ⟨2,hb⟩
 | 3,hb=>exact .inl ⟨3,hb⟩
 | 4,hb=>exact .inl ⟨4,hb⟩
structure AskR (w0:World) (lo:Nat) (v0:Sv) (vs0:List Lv) (w:World) (ob rb:Nat) (v:Sv) (vs:List Lv) (s:Sy):Prop where
 g:VarG w0 lo v0 vs0 w ob v vs s
 r:Blk w rb zc
 far:∀ i,¬ qah v vs i rb
 ne:rb≠ob
 new:w0.heap.size <= rb
section
variable {w0 w:World} {lo ob rb:Nat} {v0 v:Sv} {vs0 vs:List Lv} {s:Sy}
theorem AskR.keeps {w':World} (h:AskR w0 lo v0 vs0 w ob rb v vs s) (k:Keeps w w'):AskR w0 lo v0 vs0 w' ob rb v vs s:=⟨h.g.keeps k,h.r.keeps k,h.far,h.ne,h.new⟩
theorem AskR.locks {w1:World} (h:AskR w0 lo v0 vs0 w ob rb v vs s) (k:Keeps w w1) {x:Rw} {vs':List Lv} {ls:List Lk} (L:Mine w1 w.heap.size w1.heap.size x.val vs' ls) :
  AskR w0 lo v0 vs0 (w1.setCell ⟨ob,3,none⟩ x.val) ob rb { v with l:=x } vs' { s with locks:=ls }:=by
 have hl:=h.r.lt
 refine ⟨h.g.locks k L,(h.r.keeps k).far h.ne.symm _,?_,h.ne,h.new⟩
 intro i hi
 match i,hi with
 | 0,hi=>exact h.far 0 hi
 | 1,hi=>have:=(L.blkLt hi).1;omega
 | 2,hi=>exact h.far 2 hi
 | 3,hi=>exact h.far 3 hi
 | 4,hi=>exact h.far 4 hi
theorem AskR.tasks {w1:World} (h:AskR w0 lo v0 vs0 w ob rb v vs s) (k:Keeps w w1) {x:Rw} {xs:List Tsk} (O:Own 47 14 tc w1 w.heap.size x.val xs) :
  AskR w0 lo v0 vs0 (w1.setCell ⟨ob,2,none⟩ x.val) ob rb { v with t:=x } vs { s with tasks:=xs }:=by
 have hl:=h.r.lt
 have hob:=h.g.var.box.lt
 have hlo:lo <= w.heap.size:=Nat.le_trans h.g.var.lob (Nat.le_of_lt hob)
 have f:∀ q,x.val.ownBlock=some q->w.heap.size <= q:=fun q hq=>(O.ltb q hq).1
 have S2:OwnS w1 lo { v with t:=x } vs { s with tasks:=xs }:=h.g.var.own.setT k.size (fun b hb _=>Below.block k b hb) x xs (O.base hlo) fun b hb => .inr (f b hb)
 have far2:∀ c,c < w.heap.size->(∀ i,¬ qah v vs i c)->∀ i,¬ qah { v with t:=x } vs i c:=by
  intro c hc hf i hi
  match i,hi with
  | 0,hi=>have:=f c hi;omega
  | 1,hi=>exact hf 1 hi
  | 2,hi=>exact hf 2 hi
  | 3,hi=>exact hf 3 hi
  | 4,hi=>exact hf 4 hi
 have fo:=far2 ob hob h.g.var.far
 have O3:OwnS (w1.setCell ⟨ob,2,none⟩ x.val) lo { v with t:=x } vs { s with tasks:=xs }:=S2.far fo _
 refine ⟨⟨⟨(h.g.var.box.keeps k).set 2 (by simp) x.val,O3,h.g.var.lob,fo⟩,(h.g.keeps k).goes.step O3 (TurnsB.putC (.inr h.g.new) [x.val] 2 (TurnsB.refl _ _)) fun i b hb => ?_,h.g.new⟩,(h.r.keeps k).far h.ne.symm _,far2 rb hl h.far,h.ne,h.new⟩
 match i,hb with
 | 0,hb=>exact .inr (Nat.le_trans h.g.goes.turn.size (f b hb))
 | 1,hb=>exact .inl ⟨1,hb⟩
 | 2,hb=>exact .inl ⟨2,hb⟩
 | 3,hb=>exact .inl ⟨3,hb⟩
 | 4,hb=>exact .inl ⟨4,hb⟩
theorem AskR.ghosts {w1 w2:World} (h:AskR w0 lo v0 vs0 w ob rb v vs s) (k:Keeps w w1) {x:Rw} {xs:List Gh} (O:Own 107 4 ghc w2 lo x.val xs) (g:w1.grownBy w2 v.g.val.ownBlock) (f:∀ q,x.val.ownBlock=some q->v.g.val.ownBlock=some q∨w1.heap.size <= q) :
  AskR w0 lo v0 vs0 (w2.setCell ⟨ob,4,none⟩ x.val) ob rb { v with g:=x } vs { s with ghosts:=xs }:=by
 have hl:=(h.r.keeps k).lt
 refine ⟨h.g.ghosts k O g f,((h.r.keeps k).grown g (fun q e e2=>h.far 2 (by rw [<- e2];exact e))).far h.ne.symm _,?_,h.ne,h.new⟩
 intro i hi
 match i,hi with
 | 0,hi=>exact h.far 0 hi
 | 1,hi=>exact h.far 1 hi
 | 2,hi =>
  rcases f rb hi with h2 | h2
  ·exact h.far 2 h2
  ·omega
 | 3,hi=>exact h.far 3 hi
 | 4,hi=>exact h.far 4 hi
theorem AskR.task (h:AskR w0 lo v0 vs0 w ob rb v vs s) {tb:Nat} (ha:v.t.a=some ⟨tb,0,none⟩) {k:Nat} (hk:k < s.tasks.length) (x:Tsk):AskR w0 lo v0 vs0 (putC w tb (k*14) (tc x).toList) ob rb v vs { s with tasks:=s.tasks.set k x }:=by
 have ho:qah v vs 0 tb:=by show v.t.val.ownBlock=some tb;rw [Rw.val,ha];rfl
 have hne:tb≠rb:=fun e=>h.far 0 (by rw [<- e];exact ho)
 exact ⟨h.g.task ha hk x,Blk.farC hne _ _ h.r,h.far,h.ne,h.new⟩
theorem AskR.num (h:AskR w0 lo v0 vs0 w ob rb v vs s) (now cpus seq missed:Int) {k:Nat} {x:Value} (e:(syc s v).setIfInBounds k x=syc { s with now:=now,cpus:=cpus,seq:=seq,missed:=missed } v) (hk:k < 9):AskR w0 lo v0 vs0 (w.setCell ⟨ob,k,none⟩ x) ob rb v vs { s with now:=now,cpus:=cpus,seq:=seq,missed:=missed } :=
 ⟨h.g.num now cpus seq missed e hk,h.r.far h.ne.symm _,h.far,h.ne,h.new⟩
theorem AskR.fin (h:AskR w0 lo v0 vs0 w ob rb v vs s):Blk (putC w rb 0 (syc s v).toList) rb (syc s v) /\ Goes w0 lo v0 vs0 (putC w rb 0 (syc s v).toList) v vs s :=
 ⟨h.r.putC (syc s v).toList rfl,(h.g.elsewhere h.far h.ne h.new (syc s v).toList 0).goes⟩
end
abbrev qau (w:World) (v:Sv) (s:Sy) (c:Cl):World:=((w.alloc (.cells (syc s v) 37)).alloc (.cells (cc c) 189)).alloc (.cells zc 37)
abbrev qdn (w:World) (v:Sv) (s:Sy):World:=(w.alloc (.cells (syc s v) 37)).alloc (.cells zc 37)
theorem ask3 {w:World} {lo:Nat} {v:Sv} {vs:List Lv} {s:Sy} (h:OwnS w lo v vs s) (hl:lo <= w.heap.size) (c:Cl) :
  AskR w lo v vs (qau w v s c) w.heap.size (w.heap.size+2) v vs s /\ Blk (qau w v s c) (w.heap.size+1) (cc c) /\ Keeps w (qau w v s c):=by
 refine ⟨⟨(VarG.start h hl).keeps (((Keeps.refl _).alloc _).alloc _),?_,fun i hi=>by have:=(h.blkLt hi).2;omega,by omega,by omega⟩,?_,(((Keeps.refl w).alloc _).alloc _).alloc _⟩
 ·have:=Blk.new ((w.alloc (.cells (syc s v) 37)).alloc (.cells (cc c) 189)) zc 37
  simpa using this
 ·have:=(Blk.new (w.alloc (.cells (syc s v) 37)) (cc c) 189).alloc (.cells zc 37)
  simpa using this
theorem ask2 {w:World} {lo:Nat} {v:Sv} {vs:List Lv} {s:Sy} (h:OwnS w lo v vs s) (hl:lo <= w.heap.size) :
  AskR w lo v vs (qdn w v s) w.heap.size (w.heap.size+1) v vs s /\ Keeps w (qdn w v s):=by
 refine ⟨⟨(VarG.start h hl).keeps ((Keeps.refl _).alloc _),?_,fun i hi=>by have:=(h.blkLt hi).2;omega,by omega,by omega⟩,((Keeps.refl w).alloc _).alloc _⟩
 have:=Blk.new (w.alloc (.cells (syc s v) 37)) zc 37
 simpa using this
def Did (w:World) (lo:Nat) (v:Sv) (vs:List Lv) (n:Int) (s0:Sy) (e:Ending) (w':World):Prop:=∃ s' v' vs',e = .returned (.tuple #[.agg (syc s' v'),.int .i64 n]) /\ (n=0->s'=s0) /\ Goes w lo v vs w' v' vs' s'
theorem Did.of {w:World} {lo:Nat} {v:Sv} {vs:List Lv} {n m:Int} {s0 s':Sy} {w':World} {v':Sv} {vs':List Lv} (hm:n=m) (hs:m=0->s'=s0) (g:Goes w lo v vs w' v' vs' s'):Did w lo v vs n s0 (.returned (.tuple #[.agg (syc s' v'),.int .i64 m])) w' :=
 ⟨s',v',vs',by rw [hm],fun h=>hs (by rw [<- hm];exact h),g⟩
theorem AskR.ret {P:Program} {fn:Func} {a:Act} {w0 w:World} {lo ob rb:Nat} {v0 v:Sv} {vs0 vs:List Lv} {s s0:Sy} {n m:Int} (h:AskR w0 lo v0 vs0 w ob rb v vs s) (hn:n=m) (hs:m=0->s=s0) (hd:a.defers=[])
  (hr:∀ Q:World,(∀ k,Q.cell? ⟨rb,k,none⟩=(syc s v)[k]?)->(results fn a.tmps).run P Q = .ok (.tuple #[.agg (syc s v),.int .i64 m]) Q):bodyPost P fn (Did w0 lo v0 vs0 n s0) .ret a (putC w rb 0 (syc s v).toList):=by
 obtain ⟨D,GZ⟩:=h.fin
 exact bodyPost_ret (hr _ D.cells) hd (Did.of hn hs GZ)
theorem On.sWaitAt {w w':World} {a:Option Addr} {m cap:Nat} {ls:List Lk} (h:On w a m cap ls) (x:Int) {z:Int} (hz:qaK ls x=z) (k:Keeps w w'):Calls Tryz.prog 194 #[.slice a m cap,.int .i64 x] w' fun e w''=>e = .returned (.int .i64 z) /\ Keeps w' w'':=by
 have h':=h.keeps k
 have:=qe5 a cap ls x w' h'.small h'.lks
 rw [h'.len,hz] at this
 exact this
theorem On.sOwnsAny {w w':World} {a:Option Addr} {m cap:Nat} {ls:List Lk} (h:On w a m cap ls) (x:Int) {z:Bool} (hz:qcB ls x=z) (k:Keeps w w'):Calls Tryz.prog 239 #[.slice a m cap,.int .i64 x] w' fun e w''=>e = .returned (.bool z) /\ Keeps w' w'':=by
 have h':=h.keeps k
 have:=qm0 a cap ls x w' h'.small h'.lks
 rw [h'.len,hz] at this
 exact this
theorem qjW {ls:List Lk} {i:Nat} {l:Lk} (h:ls[i]?=some l):qc9 ls i=l.waits:=by simp [qc9,h]
theorem SysR.five {s:Sy} (h:SysR s):s.locks.length=5:=by
 have h2:=h.locks
 unfold qbo at h2
 simp only [Bool.and_eq_true,beq_iff_eq] at h2
 exact h2.1
end Go.Proofs.YthpdlbcdbncnhaaGreatDoor
namespace Go.Proofs.YthpdlbcdbncnhaaGreatDoor
set_option maxRecDepth 100000
open Go.RowKit
attribute [local go_sem] Keeps.refl Keeps.alloc Keeps.drew Keeps.drewN
theorem qdI {ts:List Tsk} {no:Int} (h:qag ts no=true):∃ k:Nat,qar ts no=(k:Int) /\ (∃ t,ts[k]?=some t) /\ ∀ t,ts[k]?=some t->tAt ts no=t:=by
 obtain ⟨k,t,e,ht,-⟩:=qbV.1 h
 exact ⟨k,e,⟨t,ht⟩,fun t' ht'=>qcE e ht'⟩
theorem qdJ {s:Sy} {c:Cl} (h4:decide (c.kind <= 3)=false) (h11:(c.kind==11)=false) (hth:qag s.tasks c.no=true):doN s c=qde s c (tAt s.tasks c.no):=by
 unfold doN
 rw [if_neg (by simpa using h4),h11,hth]
 rfl
theorem qjX {s:Sy} {c:Cl} (h4:decide (c.kind <= 3)=false) (h11:(c.kind==11)=false) (hth:qag s.tasks c.no=false):doN s c=2:=by
 unfold doN
 rw [if_neg (by simpa using h4),h11,hth]
 rfl
theorem qdK {s:Sy} {c:Cl} (h4:decide (c.kind <= 3)=false) (h11:(c.kind==11)=false):doC s c=qcR s c (qar s.tasks c.no).toNat (tAt s.tasks c.no):=by
 unfold doC
 rw [if_neg (by simpa using h4),h11]
 rfl
section
variable {w0 w:World} {lo ob rb:Nat} {v0 v:Sv} {vs0 vs:List Lv} {s:Sy}
theorem AskR.neT (h:AskR w0 lo v0 vs0 w ob rb v vs s) {tb:Nat} (ha:v.t.a=some ⟨tb,0,none⟩):tb≠ob:=fun e=>h.g.var.far 0 (by show v.t.val.ownBlock=some ob;rw [Rw.val,ha,e];rfl)
theorem AskR.neR (h:AskR w0 lo v0 vs0 w ob rb v vs s) {tb:Nat} (ha:v.t.a=some ⟨tb,0,none⟩):tb≠rb:=fun e=>h.far 0 (by show v.t.val.ownBlock=some rb;rw [Rw.val,ha,e];rfl)
theorem AskR.taskCell (h:AskR w0 lo v0 vs0 w ob rb v vs s) {tb:Nat} (ha:v.t.a=some ⟨tb,0,none⟩) {k:Nat} {x y:Tsk} (hk:s.tasks[k]?=some x) {j:Nat} (hj:j < 14) {u:Value} (e:(tc x).setIfInBounds j u=tc y) :
  AskR w0 lo v0 vs0 (w.setCell ⟨tb,k*14+j,none⟩ u) ob rb v vs { s with tasks:=s.tasks.set k y }:=by
 have ho:qah v vs 0 tb:=by show v.t.val.ownBlock=some tb;rw [Rw.val,ha];rfl
 have h1:=h.neT ha
 have h2:=h.neR ha
 have hn:=(h.g.var.own.t.row qaw).1
 have hv:v.t.val = .slice (some ⟨tb,0,none⟩) s.tasks.length v.t.cap:=by rw [Rw.val,ha,hn]
 have O:=h.g.var.own.t
 rw [hv] at O
 have O2:Own 47 14 tc (w.setCell ⟨tb,k*14+j,none⟩ u) lo v.t.val (s.tasks.set k y):=by
  rw [hv]
  have:=O.setAt qaw (i:=k) (j:=j) (x:=x) (y:=y) (u:=u) hk hj (by rw [<- e];simp)
  simpa using this
 have G:w.grownBy (w.setCell ⟨tb,k*14+j,none⟩ u) (some tb):=qej [u] w (k*14+j) (World.grownBy.refl w (some tb))
 have OS:OwnS (w.setCell ⟨tb,k*14+j,none⟩ u) lo v vs { s with tasks:=s.tasks.set k y }:=h.g.var.own.setT G.size (fun b hb hnn=>G.block b hb (fun e=>hnn (by cases e;exact ho))) v.t _ O2 (fun b e => .inl e)
 exact ⟨⟨⟨h.g.var.box.far h1 _,OS,h.g.var.lob,h.g.var.far⟩,h.g.goes.step OS ((TurnsB.grown G).mono fun q e=>by cases e;exact .inl ⟨0,ho⟩) fun i _ hb => .inl ⟨i,hb⟩,h.g.new⟩,h.r.far h2 _,h.far,h.ne,h.new⟩
theorem AskR.pass (h:AskR w0 lo v0 vs0 w ob rb v vs s) {w3:World} {v3:Sv} {vs3:List Lv} {s3:Sy} (g:Goes w lo v vs w3 v3 vs3 s3):Blk w3 rb zc /\ Blk (putC w3 rb 0 (syc s3 v3).toList) rb (syc s3 v3) /\ Goes w0 lo v0 vs0 (putC w3 rb 0 (syc s3 v3).toList) v3 vs3 s3:=by
 have B:=g.blk h.r h.far
 have F:=g.far h.r.lt h.far
 refine ⟨B,B.putC (syc s3 v3).toList rfl,?_⟩
 exact (h.g.goes.trans g).step (OwnS.farC F _ _ g.own) (TurnsB.putC (.inr h.new) _ 0 (TurnsB.refl _ _)) fun i _ hb => .inl ⟨i,hb⟩
end
set_option maxHeartbeats 4000000 in
theorem qjY (t:Tsk) (w:World) :
  Calls Tryz.prog 146 #[.slice none 0 0,tk t] w fun e w'=>∃ v,e = .returned (.tuple #[v,.bool (putB [] t)]) /\ OwnT w' w.heap.size v (putL [] t) /\ Keeps w w':=by
 go_enter Tryz.func146,Tryz.ntmps146
 go_wp2_with fail
 have kW:Keeps w (w.alloc (.cells (tc t) 47)):=(Keeps.refl _).alloc _
 have B0:=Blk.new w (tc t) 47
 refine (qen none 0 [] _ (by unfold maxLen;simp) (.inl rfl)).mono ?_
 rintro e w1 ⟨rfl,k1⟩
 have B1:=B0.keeps k1
 have kw1:=kW.trans k1
 clear kW B0 k1
 have hb:qao []=true:=by rfl
 rw [hb]
 go_wp2_with fail
 have kz:Keeps w1 (w1.alloc (.cells #[] 47)):=(Keeps.refl _).alloc _
 have own0:OwnT (w1.alloc (.cells #[] 47)) w1.heap.size (.slice (some ⟨w1.heap.size,0,none⟩) 0 0) []:=Own.new 47 14 tc w1 (Nat.le_refl _)
 generalize w1.alloc (.cells #[] 47)=W at *
 have b0:∀ w',Keeps w1 w'->∀ k,w'.cell? ⟨w.heap.size,k,none⟩=(tc t)[k]?:=fun w' h=>(B1.keeps h).cells
 clear B1
 go_loopw [6,7,8] (fun v p i wr=>v = .slice (some ⟨w1.heap.size,0,none⟩) 0 0 /\ i = .int .i64 0 /\ p = .bool false /\ wr=W) (fun _ _ _ _=>0)
 case atStart=>exact ⟨rfl,rfl,rfl,rfl⟩
 case round =>
  obtain ⟨rfl,rfl,rfl,rfl⟩:=hrel
  go_wp2_with (at_builtin;(refine qbi rfl _ _ 32 rfl w1 47 (tk Tsk.zero) 14 112 tc Tryz.underlying32 (by kernel_rfl) rfl (by decide) qaw qb6 _ [] rfl wr own0 kz ((Keeps.refl _).alloc _) t _ 1 (Blk.new _ _ _) rfl ?c1 ?c2 ?_))
  case c1=>unfold maxLen;simp
  case c2=>simp
  intro v2 w2 hown2 hk2 _
  have hown:OwnT w2 w1.heap.size v2 [t]:=hown2
  clear hown2
  obtain ⟨av,cv,rfl,hlies,hcv,hmv⟩:=hown.slice qaw
  go_wp2_with fail
  refine (qen av cv [t] _ (by unfold maxLen;simp) hlies).mono ?_
  rintro e w3 ⟨rfl,k3⟩
  have hown3:=hown.keeps k3
  have kw3:=hk2.trans k3
  cases hq:qao [t]
  ·have Hb:Hid (putB [] t=false):=by show _=_;simp [putB,ins,hq]
   have Hp:Hid (putL [] t=[]):=by show _=_;simp [putL,ins,hq]
   clear hown hown3 hlies
   go_wp2_with (at_builtin;(refine qeV rfl _ _ 32 rfl w3.heap.size 47 (tk Tsk.zero) 14 112 tc Tryz.underlying32 (by kernel_rfl) rfl (by decide) qaw qb6 (.slice (some ⟨w3.heap.size,0,none⟩) 0 0) rfl (Own.new 47 14 tc w3 (Nat.le_refl _)) (by simp) [] ⟨none,0,0⟩ (.inl ⟨rfl,rfl,rfl⟩) (.inl rfl) rfl rfl (by simp) (by decide) ?_))
   intro v5 w5 o5 g5 f5
   have HO:Hid (OwnT w5 w3.heap.size v5 []):=o5
   have K5:Keeps w3 w5:=((Keeps.refl w3).alloc _).grown g5 (by intro q hq;simp [Value.ownBlock] at hq;omega)
   clear o5 g5 f5
   go_wp2
   go_ret2
   exact ⟨_,by rw [Hb.out];rfl,by rw [Hp.out];exact Own.base HO.out (kw1.trans kw3).size,(kw1.trans kw3).trans K5⟩
  ·have Hb:Hid (putB [] t=true):=by show _=_;simp [putB,ins,hq,hb]
   have Hp:Hid (putL [] t=[t]):=by show _=_;simp [putL,ins,hq,hb]
   go_wp2
   go_ret2
   exact ⟨_,by rw [Hb.out];rfl,by rw [Hp.out];exact Own.base hown3 kw1.size,kw1.trans kw3⟩
end Go.Proofs.YthpdlbcdbncnhaaGreatDoor
namespace Go.Proofs.YthpdlbcdbncnhaaGreatDoor
set_option maxRecDepth 100000
open Go.RowKit
section
variable {P:Program} {ops:Array Oper} {Q:Exit->Act->World->Prop} {md:Region.Mode} {S:World->Prop} {L:Nat}
def qbY (P:Program) (md:Region.Mode) (ops:Array Oper) (Q:Exit->Act->World->Prop) (S:World->Prop) (L:Nat):Nat->Array Bool->Act->World->Prop
 | 0,listed,a,w=>Region.ready md ops listed=[] /\ Q .normal a w
 | n+1,listed,a,w=>(Region.ready md ops listed=[]->Q .normal a w) /\ ∀ i∈Region.ready md ops listed,wpOp P ops Q i (fun a' w'=>((listed.setIfInBounds i true).getD L true=false->S w') /\ qbY P md ops Q S L n (listed.setIfInBounds i true) a' w') a w
theorem qgN:∀ (n:Nat) (listed:Array Bool) (a:Act) (w:World),qbY P md ops Q S L n listed a w->wpAny P md ops Q n listed a w
 | 0,_,_,_,h=>h
 | n+1,_,_,_,h=>⟨h.1,fun i hi=>wpOp_mono (fun a' w' h'=>qgN n _ a' w' h'.2) (h.2 i hi)⟩
theorem qfz {T:World->Prop} {i:Nat} {oi:Oper} {v:Value} (hiL:i≠L) (hi:ops[i]?=some oi) (hsel:∀ (j:Nat) (o:Oper) cs b,ops[j]?=some o->o.op ≠ .select cs b) (hL:(∀ w,T w)∨(T=S /\ qdm md ops L i=true))
  (hQ:∀ c a w,Q (.panic c) (a.put oi.dst v) w->Q (.panic c) a w) :
  ∀ (n:Nat) (listed:Array Bool) (a:Act) (w:World),(∀ j oj,ops[j]?=some oj->j≠i->listed.getD j true=false->(∀ e∈oj.after,Region.binds md e=true->e.on≠i)->oi.apart ops oj=true) ->
   i∈Region.ready md ops listed->YieldsIf P ops T oi v a->(listed.getD L true=false->S w)->((∀ w,T w)∨listed.getD L true=false)->qbY P md ops Q S L n (listed.setIfInBounds i true) (a.put oi.dst v) w->qbY P md ops Q S L (n+1) listed a w
 | n,listed,a,w,hfree,hr,hy,hS,hN,H=>by
  have hT:T w:=by
   rcases hL with h | ⟨h,-⟩
   ·exact h w
   ·rcases hN with h2 | h2
    ·exact h2 w
    ·rw [h];exact hS h2
  have hSi:(listed.setIfInBounds i true).getD L true=false->S w:=fun e=>hS (by rw [getD_set_ne true hiL] at e;exact e)
  refine ⟨fun h=>(by rw [h] at hr;cases hr),fun j hj => ?_⟩
  by_cases hji:j=i
  ·subst hji;exact hy.wpOp hi hT ⟨hSi,H⟩
  ·cases n with
   | zero =>
    have:=ready_mono hj hji
    rw [H.1] at this
    cases this
   | succ n =>
    have h1:=H.2 j (ready_mono hj hji)
    obtain ⟨hjun,oj,hoj,hall⟩:=mem_ready.1 hj
    have hnot:∀ e∈oj.after,Region.binds md e=true->e.on≠i:=fun e he hb heq=>by
     have h1:=hall e he hb
     have h0:=(mem_ready.1 hr).1
     rw [heq] at h1
     rcases Nat.lt_or_ge i listed.size with h' | h'
     ·simp [h'] at h0 h1;rw [h0] at h1;cases h1
     ·simp [Array.getElem?_eq_none h'] at h1
    have h2:=wpOp_putIf hoj (hfree j oj hoj hji hjun hnot) (fun cs b=>hsel i oi cs b hi) (fun cs b=>hsel j oj cs b hoj) hQ hy h1
    have hfree':∀ k ok,ops[k]?=some ok->k≠i->(listed.setIfInBounds j true).getD k true=false->(∀ e∈ok.after,Region.binds md e=true->e.on≠i)->oi.apart ops ok=true:=fun k ok hk hki hun hno=>by
     refine hfree k ok hk hki ?_ hno
     by_cases hjk:j=k
     ·subst hjk;exact hjun
     ·rw [getD_set_ne true hjk] at hun;exact hun
    have hN':(∀ w,T w)∨(listed.setIfInBounds j true).getD L true=false:=by
     rcases hN with h | h
     ·exact .inl h
     ·rcases hL with h3 | ⟨-,h3⟩
      ·exact .inl h3
      ·have hjL:j≠L:=fun e=>qgL h3 hr (e ▸ hj)
       exact .inr (by rw [getD_set_ne true hjL];exact h)
    refine wpOp_mono (fun a' w' h3 => ?_) h2
    have hS':(listed.setIfInBounds j true).getD L true=false->S w':=fun e=>h3.2.1 (by rw [Array.setIfInBounds_comm _ _ (Ne.symm hji),getD_set_ne true hiL];exact e)
    refine ⟨hS',qfz hiL hi hsel hL hQ n (listed.setIfInBounds j true) a' w' hfree' (ready_mono hr (Ne.symm hji)) h3.1 hS' hN' ?_⟩
    rw [Array.setIfInBounds_comm _ _ hji]
    exact h3.2.2
theorem qjZ {i:Nat} {oi:Oper} {v:Value} {n:Nat} {listed:Array Bool} {a:Act} {w:World} (hi:ops[i]?=some oi)
  (hs:Region.noSelect ops=true) (hf:Region.free md ops listed i=true) (hr:(Region.ready md ops listed).contains i=true) (hL:(qdm md ops L i&&i != L && !listed.getD L true)=true)
  (hQ:∀ c a w,Q (.panic c) (a.put oi.dst v) w->Q (.panic c) a w) (hy:YieldsIf P ops S oi v a) (hS:S w)
  (h:qbY P md ops Q S L n (listed.setIfInBounds i true) (a.put oi.dst v) w):qbY P md ops Q S L (n+1) listed a w:=by
 simp only [Bool.and_eq_true,bne_iff_ne,ne_eq,Bool.not_eq_true'] at hL
 exact qfz hL.1.2 hi (Region.noSelect_spec hs) (.inr ⟨rfl,hL.1.1⟩) hQ n listed a w (Region.free_spec hi hf) (by simpa using hr) hy (fun _=>hS) (.inr hL.2) h
theorem latL {i:Nat} {R:List Nat} {oi:Oper} {v:Value} {n:Nat} {listed:Array Bool} {a:Act} {w:World} (hi:ops[i]?=some oi)
  (hb:(Region.noSelect ops&&Region.free md ops listed i&&(Region.ready md ops listed).contains i&&(qdm md ops L i&&i != L && !listed.getD L true))=true) (hQ:∀ c a w,Q (.panic c) (a.put oi.dst v) w->Q (.panic c) a w) (hg:Region.wanted oi (yielded ops a.tmps)=true) (hS:S w)
  (hy:∀ w,S w->(execOp a.eval oi).run P w = .ok (.value v) w) (h:Plan R (qbY P md ops Q S L n (listed.setIfInBounds i true) (a.put oi.dst v) w)):Plan (i::R) (qbY P md ops Q S L (n+1) listed a w):=by
 rw [Bool.and_eq_true] at hb
 obtain ⟨h1,h2⟩:=hb
 simp only [Bool.and_eq_true] at h1
 exact qjZ hi h1.1.1 h1.1.2 h1.2 h2 hQ (Or.inl ⟨hg,hy⟩) hS h
theorem qgO {i:Nat} {oi:Oper} {v:Value} {n:Nat} {listed:Array Bool} {a:Act} {w:World} (hi:ops[i]?=some oi)
  (hs:Region.noSelect ops=true) (hf:Region.free md ops listed i=true) (hr:(Region.ready md ops listed).contains i=true) (hL:(i != L)=true)
  (hQ:∀ c a w,Q (.panic c) (a.put oi.dst v) w->Q (.panic c) a w) (hy:YieldsIf P ops (fun _=>True) oi v a) (hS:S w)
  (h:qbY P md ops Q S L n (listed.setIfInBounds i true) (a.put oi.dst v) w):qbY P md ops Q S L (n+1) listed a w :=
 qfz (T:=fun _=>True) (by simpa using hL) hi (Region.noSelect_spec hs) (.inl fun _=>trivial) hQ n listed a w (Region.free_spec hi hf) (by simpa using hr) hy (fun _=>hS) (.inl fun _=>trivial) h
theorem qgP {i:Nat} {o:Oper} {n:Nat} {listed:Array Bool} {a:Act} {w:World} (hr:Region.ready md ops listed=[i]) (ho:ops[i]?=some o)
  (h:∀ K':Act->World->Prop,Shut (∀ a w,S w->(S w->qbY P md ops Q S L n (listed.setIfInBounds i true) a w)->K' a w)->if Region.wanted o (yielded ops a.tmps)=true then Oper.wp P o a w K' Q else K' (a.put o.dst undef) w):qbY P md ops Q S L (n+1) listed a w:=by
 refine ⟨fun e=>absurd (hr ▸ e) (by simp),fun j hj => ?_⟩
 rw [hr] at hj
 obtain rfl:j=i:=by simpa using hj
 exact wpOp_step ho (fun K' hK=>h K' (fun a w hS hW=>hK a w ⟨fun _=>hS,hW hS⟩))
theorem qgQ {o:Oper} {n:Nat} {listed:Array Bool} {a:Act} {w:World} (hr:Region.ready md ops listed=[L]) (ho:ops[L]?=some o) (hd:Region.ready md ops (listed.setIfInBounds L true)=[])
  (h:∀ K':Act->World->Prop,Shut (∀ a w,Q .normal a w->K' a w)->if Region.wanted o (yielded ops a.tmps)=true then Oper.wp P o a w K' Q else K' (a.put o.dst undef) w):qbY P md ops Q S L (n+1) listed a w:=by
 refine ⟨fun e=>absurd (hr ▸ e) (by simp),fun j hj => ?_⟩
 rw [hr] at hj
 obtain rfl:j=L:=by simpa using hj
 refine wpOp_step ho (fun K' hK=>h K' (fun a w hW=>hK a w ⟨fun e => ?_,?_⟩))
 ·exfalso
  by_cases hlt:j < listed.size
  ·simp [hlt] at e
  ·simp [hlt] at e
 ·cases n with
  | zero=>exact ⟨hd,hW⟩
  | succ n=>exact ⟨fun _=>hW,by rw [hd];simp⟩
theorem qgR (L:Nat) {id:Nat} {a:Act} {w:World} (hm:P.follows .mixedOrders=true) (hS:S w.drew)
  (h:S w.drew->qbY P .any ops Q S L ops.size (Array.replicate ops.size false) a w.drew):(Code.region id ops true).wp P Q a w :=
 wp_region_any hm (qgN _ _ _ _ (h hS))
end
end Go.Proofs.YthpdlbcdbncnhaaGreatDoor
namespace Go.Proofs.YthpdlbcdbncnhaaGreatDoor
set_option maxRecDepth 100000
open Go.RowKit
attribute [local go_sem] Keeps.refl Keeps.alloc Keeps.drew Keeps.drewN
theorem OwnS.butG {g:Nat} {w w':World} {lo:Nat} {v:Sv} {vs:List Lv} {s:Sy} (h:OwnS w lo v vs s) (k:KeepsBut g w w') (hg:g < lo):OwnS w' lo v vs s :=
 h.aside k.size fun i b hb=>k.block b (h.blkLt hb).2 (by have:=(h.blkLt hb).1;omega)
def Few (c:Cl):Prop:=c.kind <= 3->1 <= c.no /\ c.no <= 12
def qj0 (g:Nat) (w:World) (e:Ending) (w':World):Prop:=∃ z:Int,e = .returned (.int .i64 z) /\ Cur w' g /\ KeepsBut g w w'
def qj1 (g:Nat) (w:World) (e:Ending) (w':World):Prop:=∃ c:Cl,e = .returned (ck c) /\ Few c /\ Cur w' g /\ KeepsBut g w w'
theorem KeepsBut.putN {g:Nat} {a:World} {b:Nat} (hb:a.heap.size <= b):∀ (L:List Value) {w:World} (k:Nat),KeepsBut g a w->KeepsBut g a (Go.Proofs.YthpdlbcdbncnhaaGreatDoor.putC w b k L)
 | [],_,_,h=>h
 | u::r,_,k,h=>KeepsBut.putN hb r (k+1) (h.setNew (p:=⟨b,k,none⟩) hb u)
theorem Cur.putC {g b:Nat} (hb:g < b):∀ (L:List Value) {w:World} (k:Nat),Cur w g->Cur (Go.Proofs.YthpdlbcdbncnhaaGreatDoor.putC w b k L) g
 | [],_,_,h=>h
 | u::r,_,k,h=>Cur.putC hb r (k+1) (h.setNew hb k u)
theorem OwnS.lockAt {w:World} {lo:Nat} {v:Sv} {vs:List Lv} {s:Sy} (h:OwnS w lo v vs s) {j:Nat} {l:Lk} (hl:s.locks[j]?=some l):∃ lb,v.l.a=some ⟨lb,0,none⟩ /\ w.cell? ⟨lb,j*2,none⟩=some (.int .i64 l.owner) /\ lo <= lb /\ lb < w.heap.size:=by
 have hj:=qas hl
 have hv:=h.l.len
 obtain ⟨x,hx⟩:=qai (xs:=vs) (k:=j) (by rw [hv];exact hj)
 obtain ⟨b,cap,e,-,-,-⟩:=h.l.own.some qby (by omega)
 have O:=h.l.own
 rw [e] at O
 have h1:=O.cellAt qby (i:=j) (k:=0) hx (by omega)
 have h2:=O.ltb b rfl
 have h3:=(h.l.rows j x l hx hl).1
 simp only [Rw.val,Value.slice.injEq] at e
 exact ⟨b,e.1,by rw [<- h3];simpa using h1,h2.1,h2.2⟩
abbrev cc0:Array Value:=#[.int .i64 0,.int .i64 0,.int .i64 0,.int .i64 0,.int .i64 0]
theorem qbc {g rb:Nat} {w Z wn:World} (R:Blk Z rb cc0) (hg:g < w.heap.size) (hr:w.heap.size <= rb) (kZ:KeepsBut g w Z) (hc:Cur wn g) (k:KeepsBut g Z wn) (c:Cl) :
  Blk (putC wn rb 0 (cc c).toList) rb (cc c) /\ Cur (putC wn rb 0 (cc c).toList) g /\ KeepsBut g w (putC wn rb 0 (cc c).toList) :=
 ⟨(R.but k (by omega)).putC (cc c).toList rfl,Cur.putC (by omega) _ 0 hc,KeepsBut.putN hr _ 0 (kZ.trans k)⟩
end Go.Proofs.YthpdlbcdbncnhaaGreatDoor
