/-
  Drawn parts of time: contracts of the model's draws of chap
  Calls: a system of one's own in a variable, and a cell for
  What is right about a system, as the program's seven invari
  Calls: the codes of calls of a task, and what is stored of
-/
import Derived.Test.YteagpjlgjfaclaaGreatDoorSysShareL
import Derived.Deep.AppendLies
import Derived.Test.YteagpjlgjfaclaaGreatDoorSysCopy
import Derived.Test.YteagpjlgjfaclaaGreatDoorSysLaws
import Derived.Test.YteagpjlgjfaclaaGreatDoorSysAwake
import Derived.Test.YteagpjlgjfaclaaGreatDoorDrawTask2
import Derived.Test.YteagpjlgjfaclaaGreatDoorPlain1
import Derived.Test.YteagpjlgjfaclaaGreatDoorFrame
import Derived.Test.YteagpjlgjfaclaaGreatDoorFairList
import Derived.Test.YteagpjlgjfaclaaGreatDoorSysShares
import Derived.Test.YteagpjlgjfaclaaGreatDoorSysTurn
import Derived.Test.YteagpjlgjfaclaaGreatDoorTaskList
namespace Go.Proofs.YteagpjlgjfaclaaGreatDoor
set_option maxRecDepth 100000
open Go.RowKit
attribute [local go_sem] Keeps.refl Keeps.alloc Keeps.drew Keeps.drewN
theorem SumTwo.but {g:Nat} {w w':World} {b:Nat} {v0 v1:Value} (h:SumTwo w b v0 v1) (k:KeepsBut g w w') (hg:b≠g):SumTwo w' b v0 v1:=by
 have hb:=h.lt
 obtain ⟨h1,h2,h3,h4⟩:=h
 exact ⟨KeepsBut.has hg h1 _ k,KeepsBut.has hg h2 _ k,(World.frozen?_of_block (w:=w) (k.block b hb hg)).trans h3,(World.frozen?_of_block (w:=w) (k.block b hb hg)).trans h4⟩
theorem SumTwo.set0 {w:World} {b:Nat} {v0 v1:Value} (h:SumTwo w b v0 v1) (x:Value):SumTwo (w.setCell ⟨b,0,none⟩ x) b x v1:=by
 obtain ⟨h1,h2,h3,h4⟩:=h
 exact ⟨qdk h1 _,by rw [qa4 (by omega),h2],by simp [h3],by simp [h4]⟩
theorem SumTwo.set1 {w:World} {b:Nat} {v0 v1:Value} (h:SumTwo w b v0 v1) (x:Value):SumTwo (w.setCell ⟨b,1,none⟩ x) b v0 x:=by
 obtain ⟨h1,h2,h3,h4⟩:=h
 exact ⟨by rw [qa4 (by omega),h1],qdk h2 _,by simp [h3],by simp [h4]⟩
theorem SumTwo.far {w:World} {b c o:Nat} {v0 v1:Value} (h:SumTwo w b v0 v1) (hc:c≠b) (x:Value):SumTwo (w.setCell ⟨c,o,none⟩ x) b v0 v1:=by
 obtain ⟨h1,h2,h3,h4⟩:=h
 exact ⟨by rw [qa4 (by omega),h1],by rw [qa4 (by omega),h2],by simp [h3],by simp [h4]⟩
theorem SumTwo.new (w:World) (v0 v1:Value) (t:TypeId):SumTwo (w.alloc (.cells #[v0,v1] t)) w.heap.size v0 v1:=by simp [SumTwo,go_sem]
theorem SumTwo.alloc {w:World} {b:Nat} {v0 v1:Value} (h:SumTwo w b v0 v1) (o:Obj):SumTwo (w.alloc o) b v0 v1:=h.keeps ((Keeps.refl w).alloc o)
structure At (g:Nat) (w W:World) (r s:Nat) (q p:Int):Prop where
 cur:Cur W g
 keep:KeepsBut g w W
 res:SumTwo W r (.int .i64 0) (.int .i64 0)
 part:SumTwo W s (.int .i64 q) (.int .i64 p)
 gr:g < r
 rs:r < s
 wr:w.heap.size <= r
theorem At.but {g:Nat} {w W W':World} {r s:Nat} {q p:Int} (h:At g w W r s q p) (hc:Cur W' g) (k:KeepsBut g W W'):At g w W' r s q p :=
 ⟨hc,h.keep.trans k,h.res.but k (by have:=h.gr;omega),h.part.but k (by have:=h.gr;have:=h.rs;omega),h.gr,h.rs,h.wr⟩
theorem At.setQ {g:Nat} {w W:World} {r s:Nat} {q p:Int} (h:At g w W r s q p) (x:Int):At g w (W.setCell ⟨s,0,none⟩ (.int .i64 x)) r s x p :=
 ⟨h.cur.setNew (by have:=h.gr;have:=h.rs;omega) _ _,h.keep.setNew (by have:=h.wr;have:=h.rs;simp;omega) _,h.res.far (by have:=h.rs;omega) _,h.part.set0 _,h.gr,h.rs,h.wr⟩
theorem At.setP {g:Nat} {w W:World} {r s:Nat} {q p:Int} (h:At g w W r s q p) (x:Int):At g w (W.setCell ⟨s,1,none⟩ (.int .i64 x)) r s q x :=
 ⟨h.cur.setNew (by have:=h.gr;have:=h.rs;omega) _ _,h.keep.setNew (by have:=h.wr;have:=h.rs;simp;omega) _,h.res.far (by have:=h.rs;omega) _,h.part.set1 _,h.gr,h.rs,h.wr⟩
theorem At.done {g:Nat} {w W:World} {r s:Nat} {q p:Int} (h:At g w W r s q p) (x y:Value):Cur ((W.setCell ⟨r,0,none⟩ x).setCell ⟨r,1,none⟩ y) g /\ KeepsBut g w ((W.setCell ⟨r,0,none⟩ x).setCell ⟨r,1,none⟩ y) :=
 ⟨(h.cur.setNew h.gr _ _).setNew h.gr _ _,(h.keep.setNew h.wr _).setNew h.wr _⟩
set_option maxHeartbeats 1600000 in
theorem qeX (g:Nat) (w:World) (hc:Cur w g) :
  Calls Tryz.prog 53 #[.pointer (some ⟨g,0,none⟩)] w fun e w'=>∃ q p:Int,e = .returned (sh q p) /\ Cur w' g /\ KeepsBut g w w':=by
 have hgl:=hc.lt
 go_enter Tryz.func53,Tryz.ntmps53
 go_wp2_with fail
 refine (qbC (fun z=>1 <= z /\ z <= 40) g [1,2,3,4,5,6,8,10,12,39,40] _ _ 11 11 _ _ (by simp) (hc.keeps ((Keeps.refl _).alloc _)) rfl (by decide) (by decide) rfl (by simp)).mono ?_
 rintro e w1 ⟨p,rfl,⟨hp0,hp1⟩,hc1,k1⟩
 go_wp2_with fail
 have A:At g w (w1.alloc (.cells #[.int .i64 0,.int .i64 p] 51)) w.heap.size w1.heap.size 0 p:=by
  have hs:=k1.size
  have kw:=((KeepsBut.refl g w).alloc (.cells #[.int .i64 0,.int .i64 0] 51)).trans k1
  simp at hs
  exact ⟨hc1.keeps ((Keeps.refl _).alloc _),kw.alloc _,((SumTwo.new w (.int .i64 0) (.int .i64 0) _).but k1 (by omega)).alloc _,SumTwo.new _ _ _ _,hgl,by omega,Nat.le_refl _⟩
 generalize w1.alloc (.cells #[.int .i64 0,.int .i64 p] 51)=W at *
 generalize w1.heap.size=s at *
 generalize hr:w.heap.size=r at *
 clear hr k1 hc1 w1
 refine (qgi _ _ _).mono ?_
 rintro e w2 ⟨rfl,rfl⟩
 have hmx:1 <= max (p / 2) 1 /\ max (p / 2) 1 <= 20:=by omega
 generalize max (p / 2) 1=mx at *
 obtain ⟨mx0,mx1⟩:=hmx
 go_wp2_with fail
 refine (qam g _ _ A.cur (by omega) (by omega)).mono ?_
 rintro e w3 ⟨x,rfl,hx0,hx1,hc3,k3⟩
 have A3:=A.but hc3 k3
 clear A hc3 k3 hc hgl
 obtain ⟨c0,c1,f0,f1⟩:=A3.part
 go_wp2_with fail
 have A4:=A3.setQ (1+x)
 clear c0 c1 f0 f1 A3
 generalize w3.setCell ⟨s,0,none⟩ (.int .i64 (1+x))=w4 at *
 refine (qam g _ _ A4.cur (by omega) (by omega)).mono ?_
 rintro e w5 ⟨y,rfl,hy0,hy1,hc5,k5⟩
 have A5:=A4.but hc5 k5
 clear A4 hc5 k5
 obtain ⟨c0,c1,f0,f1⟩:=A5.part
 obtain ⟨d0,d1,e0,e1⟩:=A5.res
 have hrs:r≠s:=by have:=A5.rs;omega
 have hsr:s≠r:=Ne.symm hrs
 by_cases hy:y=0
 ·subst hy
  go_wp2_with fail
  refine (qbC (fun _=>True) g [0,-1,41] _ _ 3 3 _ _ rfl A5.cur rfl (by decide) (by decide) rfl (by simp)).mono ?_
  rintro e w6 ⟨z,rfl,_,hc6,k6⟩
  have A6:=A5.but hc6 k6
  clear c0 c1 f0 f1 d0 d1 e0 e1 A5 hc6 k6
  obtain ⟨c0,c1,f0,f1⟩:=A6.part
  obtain ⟨d0,d1,e0,e1⟩:=A6.res
  go_wp2
  exact bodyPost_ret (v:=sh (1+x) z) (by simp [results,Tryz.results53,go_sem,d0,d1]) rfl ⟨_,_,rfl,(A6.setP z).done _ _⟩
 ·by_cases hy':y=1
  ·subst hy'
   go_wp2_with fail
   refine (qbC (fun _=>True) g [0,-1,p,p+1] _ _ 4 4 _ _ rfl A5.cur rfl (by decide) (by decide) rfl (by simp)).mono ?_
   rintro e w6 ⟨z,rfl,_,hc6,k6⟩
   have A6:=A5.but hc6 k6
   clear c0 c1 f0 f1 d0 d1 e0 e1 A5 hc6 k6
   obtain ⟨c0,c1,f0,f1⟩:=A6.part
   obtain ⟨d0,d1,e0,e1⟩:=A6.res
   go_wp2
   exact bodyPost_ret (v:=sh z p) (by simp [results,Tryz.results53,go_sem,d0,d1]) rfl ⟨_,_,rfl,(A6.setQ z).done _ _⟩
  ·have b0:(y==0)=false:=by rw [beq_eq_false_iff_ne];exact hy
   have b1:(y==1)=false:=by rw [beq_eq_false_iff_ne];exact hy'
   go_wp2
   exact bodyPost_ret (v:=sh (1+x) p) (by simp [results,Tryz.results53,go_sem,d0,d1]) rfl ⟨_,_,rfl,A5.done _ _⟩
end Go.Proofs.YteagpjlgjfaclaaGreatDoor
namespace Go.Proofs.YteagpjlgjfaclaaGreatDoor
set_option maxRecDepth 100000
open Go.RowKit
theorem VarG.locks {w0 w:World} {lo ob:Nat} {v0 v:Sv} {vs0 vs:List Lv} {s:Sy} {w1:World} (h:VarG w0 lo v0 vs0 w ob v vs s) (k:Keeps w w1) {x:Rw} {vs':List Lv} {ls:List Lk} (L:Mine w1 w.heap.size w1.heap.size x.val vs' ls) :
  VarG w0 lo v0 vs0 (w1.setCell ⟨ob,3,none⟩ x.val) ob { v with l:=x } vs' { s with locks:=ls }:=by
 have h1:=h.keeps k
 have hob:=h.var.box.lt
 have hlo:lo <= w.heap.size:=Nat.le_trans h.var.lob (Nat.le_of_lt hob)
 have f:∀ b,qdU x.val vs' b->w.heap.size <= b:=fun b hb=>(L.blkLt hb).1
 have S2:OwnS w1 lo { v with l:=x } vs' { s with locks:=ls }:=h.var.own.setL (fun b hb _=>Below.block k b hb) x ls (L.widen hlo (Nat.le_refl _)) fun b hb => .inr (f b hb)
 have far2:∀ i,¬ qaf { v with l:=x } vs' i ob:=by
  intro i hi
  match i,hi with
  | 0,hi=>exact h.var.far 0 hi
  | 1,hi=>have:=f ob hi;omega
  | 2,hi=>exact h.var.far 2 hi
  | 3,hi=>exact h.var.far 3 hi
  | 4,hi=>exact h.var.far 4 hi
 have O3:OwnS (w1.setCell ⟨ob,3,none⟩ x.val) lo { v with l:=x } vs' { s with locks:=ls }:=S2.far far2 _
 refine ⟨⟨h1.var.box.set 3 (by simp) x.val,O3,h.var.lob,far2⟩,h1.goes.step O3 (TurnsB.putC (.inr h.new) [x.val] 3 (TurnsB.refl _ _)) fun i b hb => ?_,h.new⟩
 match i,hb with
 | 0,hb=>exact .inl ⟨0,hb⟩
 | 1,hb=>exact .inr (Nat.le_trans h.goes.turn.size (f b hb))
 | 2,hb=>exact .inl ⟨2,hb⟩
 | 3,hb=>exact .inl ⟨3,hb⟩
 | 4,hb=>exact .inl ⟨4,hb⟩
structure AskR (w0:World) (lo:Nat) (v0:Sv) (vs0:List Lv) (w:World) (ob rb:Nat) (v:Sv) (vs:List Lv) (s:Sy):Prop where
 g:VarG w0 lo v0 vs0 w ob v vs s
 r:Blk w rb zc
 far:∀ i,¬ qaf v vs i rb
 ne:rb≠ob
 new:w0.heap.size <= rb
section
variable {w0 w:World} {lo ob rb:Nat} {v0 v:Sv} {vs0 vs:List Lv} {s:Sy}
theorem AskR.keeps {w':World} (h:AskR w0 lo v0 vs0 w ob rb v vs s) (k:Keeps w w'):AskR w0 lo v0 vs0 w' ob rb v vs s:=⟨h.g.keeps k,h.r.keeps k,h.far,h.ne,h.new⟩
theorem AskR.locks {w1:World} (h:AskR w0 lo v0 vs0 w ob rb v vs s) (k:Keeps w w1) {x:Rw} {vs':List Lv} {ls:List Lk} (L:Mine w1 w.heap.size w1.heap.size x.val vs' ls) :
  AskR w0 lo v0 vs0 (w1.setCell ⟨ob,3,none⟩ x.val) ob rb { v with l:=x } vs' { s with locks:=ls }:=by
 have hl:=h.r.lt
 refine ⟨h.g.locks k L,(h.r.keeps k).far h.ne.symm _,?_,h.ne,h.new⟩
 intro i hi
 match i,hi with
 | 0,hi=>exact h.far 0 hi
 | 1,hi=>have:=(L.blkLt hi).1;omega
 | 2,hi=>exact h.far 2 hi
 | 3,hi=>exact h.far 3 hi
 | 4,hi=>exact h.far 4 hi
theorem AskR.tasks {w1:World} (h:AskR w0 lo v0 vs0 w ob rb v vs s) (k:Keeps w w1) {x:Rw} {xs:List Tsk} (O:Own 43 14 tc w1 w.heap.size x.val xs) :
  AskR w0 lo v0 vs0 (w1.setCell ⟨ob,2,none⟩ x.val) ob rb { v with t:=x } vs { s with tasks:=xs }:=by
 have hl:=h.r.lt
 have hob:=h.g.var.box.lt
 have hlo:lo <= w.heap.size:=Nat.le_trans h.g.var.lob (Nat.le_of_lt hob)
 have f:∀ q,x.val.ownBlock=some q->w.heap.size <= q:=fun q hq=>(O.ltb q hq).1
 have S2:OwnS w1 lo { v with t:=x } vs { s with tasks:=xs }:=h.g.var.own.setT k.size (fun b hb _=>Below.block k b hb) x xs (O.base hlo) fun b hb => .inr (f b hb)
 have far2:∀ c,c < w.heap.size->(∀ i,¬ qaf v vs i c)->∀ i,¬ qaf { v with t:=x } vs i c:=by
  intro c hc hf i hi
  match i,hi with
  | 0,hi=>have:=f c hi;omega
  | 1,hi=>exact hf 1 hi
  | 2,hi=>exact hf 2 hi
  | 3,hi=>exact hf 3 hi
  | 4,hi=>exact hf 4 hi
 have fo:=far2 ob hob h.g.var.far
 have O3:OwnS (w1.setCell ⟨ob,2,none⟩ x.val) lo { v with t:=x } vs { s with tasks:=xs }:=S2.far fo _
 refine ⟨⟨⟨(h.g.var.box.keeps k).set 2 (by simp) x.val,O3,h.g.var.lob,fo⟩,(h.g.keeps k).goes.step O3 (TurnsB.putC (.inr h.g.new) [x.val] 2 (TurnsB.refl _ _)) fun i b hb => ?_,h.g.new⟩,(h.r.keeps k).far h.ne.symm _,far2 rb hl h.far,h.ne,h.new⟩
 match i,hb with
 | 0,hb=>exact .inr (Nat.le_trans h.g.goes.turn.size (f b hb))
 | 1,hb=>exact .inl ⟨1,hb⟩
 | 2,hb=>exact .inl ⟨2,hb⟩
 | 3,hb=>exact .inl ⟨3,hb⟩
 | 4,hb=>exact .inl ⟨4,hb⟩
theorem AskR.ghosts {w1 w2:World} (h:AskR w0 lo v0 vs0 w ob rb v vs s) (k:Keeps w w1) {x:Rw} {xs:List Gh} (O:Own 87 4 ghc w2 lo x.val xs) (g:w1.grownBy w2 v.g.val.ownBlock) (f:∀ q,x.val.ownBlock=some q->v.g.val.ownBlock=some q∨w1.heap.size <= q) :
  AskR w0 lo v0 vs0 (w2.setCell ⟨ob,4,none⟩ x.val) ob rb { v with g:=x } vs { s with ghosts:=xs }:=by
 have hl:=(h.r.keeps k).lt
 refine ⟨h.g.ghosts k O g f,((h.r.keeps k).grown g (fun q e e2=>h.far 2 (by rw [<- e2];exact e))).far h.ne.symm _,?_,h.ne,h.new⟩
 intro i hi
 match i,hi with
 | 0,hi=>exact h.far 0 hi
 | 1,hi=>exact h.far 1 hi
 | 2,hi =>
  rcases f rb hi with h2 | h2
  ·exact h.far 2 h2
  ·omega
 | 3,hi=>exact h.far 3 hi
 | 4,hi=>exact h.far 4 hi
theorem AskR.task (h:AskR w0 lo v0 vs0 w ob rb v vs s) {tb:Nat} (ha:v.t.a=some ⟨tb,0,none⟩) {k:Nat} (hk:k < s.tasks.length) (x:Tsk):AskR w0 lo v0 vs0 (putC w tb (k*14) (tc x).toList) ob rb v vs { s with tasks:=s.tasks.set k x }:=by
 have ho:qaf v vs 0 tb:=by show v.t.val.ownBlock=some tb;rw [Rw.val,ha];rfl
 have hne:tb≠rb:=fun e=>h.far 0 (by rw [<- e];exact ho)
 exact ⟨h.g.task ha hk x,Blk.farC hne _ _ h.r,h.far,h.ne,h.new⟩
theorem AskR.num (h:AskR w0 lo v0 vs0 w ob rb v vs s) (now cpus seq missed:Int) {k:Nat} {x:Value} (e:(syc s v).setIfInBounds k x=syc { s with now:=now,cpus:=cpus,seq:=seq,missed:=missed } v) (hk:k < 9):AskR w0 lo v0 vs0 (w.setCell ⟨ob,k,none⟩ x) ob rb v vs { s with now:=now,cpus:=cpus,seq:=seq,missed:=missed } :=
 ⟨h.g.num now cpus seq missed e hk,h.r.far h.ne.symm _,h.far,h.ne,h.new⟩
theorem AskR.fin (h:AskR w0 lo v0 vs0 w ob rb v vs s):Blk (putC w rb 0 (syc s v).toList) rb (syc s v) /\ Goes w0 lo v0 vs0 (putC w rb 0 (syc s v).toList) v vs s :=
 ⟨h.r.putC (syc s v).toList rfl,(h.g.elsewhere h.far h.ne h.new (syc s v).toList 0).goes⟩
end
abbrev qat (w:World) (v:Sv) (s:Sy) (c:Cl):World:=((w.alloc (.cells (syc s v) 30)).alloc (.cells (cc c) 32)).alloc (.cells zc 30)
abbrev qcX (w:World) (v:Sv) (s:Sy):World:=(w.alloc (.cells (syc s v) 30)).alloc (.cells zc 30)
theorem ask3 {w:World} {lo:Nat} {v:Sv} {vs:List Lv} {s:Sy} (h:OwnS w lo v vs s) (hl:lo <= w.heap.size) (c:Cl) :
  AskR w lo v vs (qat w v s c) w.heap.size (w.heap.size+2) v vs s /\ Blk (qat w v s c) (w.heap.size+1) (cc c) /\ Keeps w (qat w v s c):=by
 refine ⟨⟨(VarG.start h hl).keeps (((Keeps.refl _).alloc _).alloc _),?_,fun i hi=>by have:=(h.blkLt hi).2;omega,by omega,by omega⟩,?_,(((Keeps.refl w).alloc _).alloc _).alloc _⟩
 ·have:=Blk.new ((w.alloc (.cells (syc s v) 30)).alloc (.cells (cc c) 32)) zc 30
  simpa using this
 ·have:=(Blk.new (w.alloc (.cells (syc s v) 30)) (cc c) 32).alloc (.cells zc 30)
  simpa using this
theorem ask2 {w:World} {lo:Nat} {v:Sv} {vs:List Lv} {s:Sy} (h:OwnS w lo v vs s) (hl:lo <= w.heap.size) :
  AskR w lo v vs (qcX w v s) w.heap.size (w.heap.size+1) v vs s /\ Keeps w (qcX w v s):=by
 refine ⟨⟨(VarG.start h hl).keeps ((Keeps.refl _).alloc _),?_,fun i hi=>by have:=(h.blkLt hi).2;omega,by omega,by omega⟩,((Keeps.refl w).alloc _).alloc _⟩
 have:=Blk.new (w.alloc (.cells (syc s v) 30)) zc 30
 simpa using this
def Did (w:World) (lo:Nat) (v:Sv) (vs:List Lv) (n:Int) (s0:Sy) (e:Ending) (w':World):Prop:=∃ s' v' vs',e = .returned (.tuple #[.agg (syc s' v'),.int .i64 n]) /\ (n=0->s'=s0) /\ Goes w lo v vs w' v' vs' s'
theorem Did.of {w:World} {lo:Nat} {v:Sv} {vs:List Lv} {n m:Int} {s0 s':Sy} {w':World} {v':Sv} {vs':List Lv} (hm:n=m) (hs:m=0->s'=s0) (g:Goes w lo v vs w' v' vs' s'):Did w lo v vs n s0 (.returned (.tuple #[.agg (syc s' v'),.int .i64 m])) w' :=
 ⟨s',v',vs',by rw [hm],fun h=>hs (by rw [<- hm];exact h),g⟩
theorem AskR.ret {P:Program} {fn:Func} {a:Act} {w0 w:World} {lo ob rb:Nat} {v0 v:Sv} {vs0 vs:List Lv} {s s0:Sy} {n m:Int} (h:AskR w0 lo v0 vs0 w ob rb v vs s) (hn:n=m) (hs:m=0->s=s0) (hd:a.defers=[])
  (hr:∀ Q:World,(∀ k,Q.cell? ⟨rb,k,none⟩=(syc s v)[k]?)->(results fn a.tmps).run P Q = .ok (.tuple #[.agg (syc s v),.int .i64 m]) Q):bodyPost P fn (Did w0 lo v0 vs0 n s0) .ret a (putC w rb 0 (syc s v).toList):=by
 obtain ⟨D,GZ⟩:=h.fin
 exact bodyPost_ret (hr _ D.cells) hd (Did.of hn hs GZ)
theorem On.sWaitAt {w w':World} {a:Option Addr} {m cap:Nat} {ls:List Lk} (h:On w a m cap ls) (x:Int) {z:Int} (hz:qaJ ls x=z) (k:Keeps w w'):Calls Tryz.prog 84 #[.slice a m cap,.int .i64 x] w' fun e w''=>e = .returned (.int .i64 z) /\ Keeps w' w'':=by
 have h':=h.keeps k
 have:=qeF a cap ls x w' h'.small h'.lks
 rw [h'.len,hz] at this
 exact this
theorem On.sOwnsAny {w w':World} {a:Option Addr} {m cap:Nat} {ls:List Lk} (h:On w a m cap ls) (x:Int) {z:Bool} (hz:qck ls x=z) (k:Keeps w w'):Calls Tryz.prog 148 #[.slice a m cap,.int .i64 x] w' fun e w''=>e = .returned (.bool z) /\ Keeps w' w'':=by
 have h':=h.keeps k
 have:=qlr a cap ls x w' h'.small h'.lks
 rw [h'.len,hz] at this
 exact this
theorem qiy {ls:List Lk} {i:Nat} {l:Lk} (h:ls[i]?=some l):qcL ls i=l.waits:=by simp [qcL,h]
theorem SysR.five {s:Sy} (h:SysR s):s.locks.length=5:=by
 have h2:=h.locks
 unfold qbr at h2
 simp only [Bool.and_eq_true,beq_iff_eq] at h2
 exact h2.1
end Go.Proofs.YteagpjlgjfaclaaGreatDoor
namespace Go.Proofs.YteagpjlgjfaclaaGreatDoor
set_option maxRecDepth 100000
open Go.RowKit
def qbc (s:Sy) (cpu:Int):Bool:=decide (0 <= cpu)&&decide (cpu < s.cpus)
def qbW (s:Sy) (i:Nat) (l:Lk):Bool:=l.waits.all (fun x=>qaD s i x)&&(l.owner==0||qaD s i l.owner)
def inv0 (s:Sy):Bool:=inB s.now 0 100000&&inB s.cpus 1 4
def inv1 (s:Sy):Bool:=s.tasks.all (fun t=>qbc s t.cpu)&&qav s.tasks
def inv2 (s:Sy):Bool:=s.locks.length==5&&(qax s.locks&&(List.range s.locks.length).all (fun i=>qbW s i (s.locks.getD i ⟨0,[]⟩)))
def qde (s:Sy) (g:Gh):Bool:=qbc s g.cpu&&(okB g.q g.p&&inB g.til 0 100040)
def inv3 (s:Sy):Bool:=s.ghosts.all (qde s)&&decide (s.ghosts.length <= 12)
def inv4 (s:Sy):Bool:=(List.range s.cpus.toNat).all (fun c=>qaL (qan s (c:Int)))
def inv5 (s:Sy):Bool:=s.floors.all (fun f=>inB f 0 100000000)&&((s.floors.length:Int)==s.cpus)
def inv6 (s:Sy):Bool:=inB s.seq 0 1000000&&(inB s.missed 0 100000&&decide (s.trace.length <= 400))
def qee (s:Sy):Bool:=inv0 s&&(inv1 s&&(inv2 s&&(inv3 s&&(inv4 s&&(inv5 s&&inv6 s)))))
theorem qfB (s:Sy) (c:Int):qbc s c=inB c 0 (s.cpus - 1):=by
 rw [Bool.eq_iff_iff]
 unfold qbc
 simp only [Bool.and_eq_true,decide_eq_true_eq,qas]
 omega
theorem ql8 (s:Sy):inv3 s=qbX s:=by
 have:qde s=ghB s.cpus:=by
  funext g
  unfold qde ghB
  rw [qfB]
 unfold inv3 qbX
 rw [this]
theorem qeL {s:Sy} {i:Nat} {l:Lk} {x:Int} (hl:s.locks[i]?=some l):qaD s i x=true↔qak s.tasks x=true /\ (l.owner=0∨(qak s.tasks l.owner=true /\ (tAt s.tasks l.owner).cpu=(tAt s.tasks x).cpu)):=by
 have hlt:=qaw hl
 have h1:inB (i:Int) 0 ((s.locks.length:Int) - 1)=true:=qas.2 (by omega)
 unfold qaD
 rw [h1,Int.toNat_natCast,qbT hl]
 simp only [Bool.true_and,Bool.and_eq_true,Bool.or_eq_true,beq_iff_eq]
theorem ql9 {s:Sy}:inv2 s=true↔qbr s=true:=by
 unfold inv2 qbr
 simp only [Bool.and_eq_true]
 constructor
 ·rintro ⟨h1,h2,h3⟩
  refine ⟨h1,h2,?_⟩
  rw [List.all_eq_true] at h3 ⊢
  intro l hm
  obtain ⟨i,hi⟩:=List.mem_iff_getElem?.1 hm
  have hlt:=qaw hi
  have h:=h3 i (List.mem_range.2 hlt)
  rw [qcS hi] at h
  unfold qbW at h
  simp only [Bool.and_eq_true,List.all_eq_true,Bool.or_eq_true,beq_iff_eq] at h
  unfold qbM
  simp only [Bool.or_eq_true,beq_iff_eq,Bool.and_eq_true,List.all_eq_true]
  by_cases h0:l.owner=0
  ·exact .inl h0
  ·refine .inr ⟨?_,fun x hx => ?_⟩
   ·rcases h.2 with h4 | h4
    ·exact absurd h4 h0
    ·exact ((qeL hi).1 h4).1
   ·obtain ⟨h5,h6⟩:=(qeL hi).1 (h.1 x hx)
    rcases h6 with h6 | h6
    ·exact absurd h6 h0
    ·unfold qce
     simp only [Bool.and_eq_true,beq_iff_eq]
     exact ⟨h5,h6.2.symm⟩
 ·rintro ⟨h1,h2,h3⟩
  refine ⟨h1,h2,?_⟩
  rw [List.all_eq_true] at h3 ⊢
  intro i hm
  have hlt:=List.mem_range.1 hm
  obtain ⟨l,hi⟩:=qal hlt
  rw [qcS hi]
  have h:=h3 l (List.mem_iff_getElem?.2 ⟨i,hi⟩)
  unfold qbM at h
  simp only [Bool.or_eq_true,beq_iff_eq,Bool.and_eq_true,List.all_eq_true] at h
  unfold qbW
  simp only [Bool.and_eq_true,List.all_eq_true,Bool.or_eq_true,beq_iff_eq]
  rcases h with h | ⟨h4,h5⟩
  ·have hw:=(qd7.1 h2).free i l hi h
   exact ⟨fun x hx=>by rw [hw] at hx;simp at hx,.inl h⟩
  ·refine ⟨fun x hx => ?_,.inr ((qeL hi).2 ⟨h4,.inr ⟨h4,rfl⟩⟩)⟩
   have h6:=h5 x hx
   unfold qce at h6
   simp only [Bool.and_eq_true,beq_iff_eq] at h6
   exact (qeL hi).2 ⟨h6.1,.inr ⟨h4,h6.2.symm⟩⟩
theorem qma (s:Sy):qee s=sysB s:=by
 rw [Bool.eq_iff_iff,qcP]
 unfold qee
 rw [ql8]
 simp only [Bool.and_eq_true,ql9]
 unfold inv0 inv1 inv4 inv5 inv6
 simp only [Bool.and_eq_true,qas,List.all_eq_true,decide_eq_true_eq,beq_iff_eq,List.mem_range,qfB]
 constructor
 ·rintro ⟨⟨h1,h2⟩,⟨h3,h4⟩,h5,h6,h7,⟨h8,h9⟩,h10,h11,h12⟩
  refine ⟨h1,h2,h4,h5,h6,h9,h10,h11,h12,fun t ht=>by have:=h3 t ht;omega,fun c hc => ?_⟩
  unfold cpuB
  obtain ⟨x,hx⟩:=qal (xs:=s.floors) (k:=c) (by omega)
  rw [qcS hx]
  simp only [Bool.and_eq_true,qas]
  exact ⟨h8 x (List.mem_iff_getElem?.2 ⟨c,hx⟩),h7 c (by omega)⟩
 ·intro h
  refine ⟨⟨h.now,h.cpus⟩,⟨fun t ht => ?_,h.tasks⟩,h.locks,h.ghosts,fun c hc => ?_,⟨fun x hx => ?_,h.floors⟩,h.seq,h.missed,h.trace⟩
  ·obtain ⟨i,hi⟩:=List.mem_iff_getElem?.1 ht
   have:=qhA (qhQ h.tasks hi)
   have:=h.on t ht
   omega
  ·have:=h.cpu c (by omega)
   unfold cpuB at this
   simp only [Bool.and_eq_true] at this
   exact this.2
  ·obtain ⟨c,hc⟩:=List.mem_iff_getElem?.1 hx
   have hlt:=qaw hc
   have:=h.cpu c (by have:=h.floors;omega)
   unfold cpuB at this
   rw [qcS hc] at this
   simp only [Bool.and_eq_true,qas] at this
   exact this.1
end Go.Proofs.YteagpjlgjfaclaaGreatDoor
namespace Go.Proofs.YteagpjlgjfaclaaGreatDoor
set_option maxRecDepth 100000
open Go.RowKit
attribute [local go_sem] Keeps.refl Keeps.alloc Keeps.drew Keeps.drewN
theorem qdl {ts:List Tsk} {no:Int} (h:qak ts no=true):∃ k:Nat,qau ts no=(k:Int) /\ (∃ t,ts[k]?=some t) /\ ∀ t,ts[k]?=some t->tAt ts no=t:=by
 obtain ⟨k,t,e,ht,-⟩:=qda.1 h
 exact ⟨k,e,⟨t,ht⟩,fun t' ht'=>qdb e ht'⟩
theorem qdm {s:Sy} {c:Cl} (h4:decide (c.kind <= 3)=false) (h11:(c.kind==11)=false) (hth:qak s.tasks c.no=true):doN s c=qcR s c (tAt s.tasks c.no):=by
 unfold doN
 rw [if_neg (by simpa using h4),h11,hth]
 rfl
theorem qhX {s:Sy} {c:Cl} (h4:decide (c.kind <= 3)=false) (h11:(c.kind==11)=false) (hth:qak s.tasks c.no=false):doN s c=2:=by
 unfold doN
 rw [if_neg (by simpa using h4),h11,hth]
 rfl
theorem qdn {s:Sy} {c:Cl} (h4:decide (c.kind <= 3)=false) (h11:(c.kind==11)=false):doC s c=qcz s c (qau s.tasks c.no).toNat (tAt s.tasks c.no):=by
 unfold doC
 rw [if_neg (by simpa using h4),h11]
 rfl
section
variable {w0 w:World} {lo ob rb:Nat} {v0 v:Sv} {vs0 vs:List Lv} {s:Sy}
theorem AskR.neT (h:AskR w0 lo v0 vs0 w ob rb v vs s) {tb:Nat} (ha:v.t.a=some ⟨tb,0,none⟩):tb≠ob:=fun e=>h.g.var.far 0 (by show v.t.val.ownBlock=some ob;rw [Rw.val,ha,e];rfl)
theorem AskR.neR (h:AskR w0 lo v0 vs0 w ob rb v vs s) {tb:Nat} (ha:v.t.a=some ⟨tb,0,none⟩):tb≠rb:=fun e=>h.far 0 (by show v.t.val.ownBlock=some rb;rw [Rw.val,ha,e];rfl)
theorem AskR.taskCell (h:AskR w0 lo v0 vs0 w ob rb v vs s) {tb:Nat} (ha:v.t.a=some ⟨tb,0,none⟩) {k:Nat} {x y:Tsk} (hk:s.tasks[k]?=some x) {j:Nat} (hj:j < 14) {u:Value} (e:(tc x).setIfInBounds j u=tc y) :
  AskR w0 lo v0 vs0 (w.setCell ⟨tb,k*14+j,none⟩ u) ob rb v vs { s with tasks:=s.tasks.set k y }:=by
 have ho:qaf v vs 0 tb:=by show v.t.val.ownBlock=some tb;rw [Rw.val,ha];rfl
 have h1:=h.neT ha
 have h2:=h.neR ha
 have hn:=(h.g.var.own.t.row qao).1
 have hv:v.t.val = .slice (some ⟨tb,0,none⟩) s.tasks.length v.t.cap:=by rw [Rw.val,ha,hn]
 have O:=h.g.var.own.t
 rw [hv] at O
 have O2:Own 43 14 tc (w.setCell ⟨tb,k*14+j,none⟩ u) lo v.t.val (s.tasks.set k y):=by
  rw [hv]
  have:=O.setAt qao (i:=k) (j:=j) (x:=x) (y:=y) (u:=u) hk hj (by rw [<- e];simp)
  simpa using this
 have G:w.grownBy (w.setCell ⟨tb,k*14+j,none⟩ u) (some tb):=qef [u] w (k*14+j) (World.grownBy.refl w (some tb))
 have OS:OwnS (w.setCell ⟨tb,k*14+j,none⟩ u) lo v vs { s with tasks:=s.tasks.set k y }:=h.g.var.own.setT G.size (fun b hb hnn=>G.block b hb (fun e=>hnn (by cases e;exact ho))) v.t _ O2 (fun b e => .inl e)
 exact ⟨⟨⟨h.g.var.box.far h1 _,OS,h.g.var.lob,h.g.var.far⟩,h.g.goes.step OS ((TurnsB.grown G).mono fun q e=>by cases e;exact .inl ⟨0,ho⟩) fun i _ hb => .inl ⟨i,hb⟩,h.g.new⟩,h.r.far h2 _,h.far,h.ne,h.new⟩
theorem AskR.pass (h:AskR w0 lo v0 vs0 w ob rb v vs s) {w3:World} {v3:Sv} {vs3:List Lv} {s3:Sy} (g:Goes w lo v vs w3 v3 vs3 s3):Blk w3 rb zc /\ Blk (putC w3 rb 0 (syc s3 v3).toList) rb (syc s3 v3) /\ Goes w0 lo v0 vs0 (putC w3 rb 0 (syc s3 v3).toList) v3 vs3 s3:=by
 have B:=g.blk h.r h.far
 have F:=g.far h.r.lt h.far
 refine ⟨B,B.putC (syc s3 v3).toList rfl,?_⟩
 exact (h.g.goes.trans g).step (OwnS.farC F _ _ g.own) (TurnsB.putC (.inr h.new) _ 0 (TurnsB.refl _ _)) fun i _ hb => .inl ⟨i,hb⟩
end
end Go.Proofs.YteagpjlgjfaclaaGreatDoor
