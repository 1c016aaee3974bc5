/-
  A system of one's own in a variable, and what it was when t
-/
import Derived.Test.YthpdlbcdbncnhaaGreatDoorGSys4
import Derived.Test.YthpdlbcdbncnhaaGreatDoorGPure2
import Derived.Test.YthpdlbcdbncnhaaGreatDoorGPick1
import Derived.Test.YthpdlbcdbncnhaaGreatDoorGDff1
import Derived.Test.YthpdlbcdbncnhaaGreatDoorGBase2
import Derived.Deep.Cut
namespace Go.Proofs.YthpdlbcdbncnhaaGreatDoor
set_option maxRecDepth 100000
open Go.RowKit
theorem Goes.step {w0 w w':World} {lo:Nat} {v0 v v':Sv} {vs0 vs vs':List Lv} {s s':Sy} (h:Goes w0 lo v0 vs0 w v vs s) (own:OwnS w' lo v' vs' s') (t:TurnsB (fun b=>(∃ i,qah v vs i b)∨w0.heap.size <= b) w w') (old:∀ i b,qah v' vs' i b->(∃ j,qah v vs j b)∨w0.heap.size <= b):Goes w0 lo v0 vs0 w' v' vs' s':=by
 refine ⟨own,⟨t.os.trans h.turn.os,t.tape.trans h.turn.tape,t.output.trans h.turn.output,Nat.le_trans h.turn.size t.size,fun b hb hn => ?_⟩,fun i b hb => ?_⟩
 ·refine (t.block b (Nat.lt_of_lt_of_le hb h.turn.size) ?_).trans (h.turn.block b hb hn)
  rintro (⟨i,hi⟩ | h1)
  ·rcases h.old i b hi with h1 | h1
   ·exact hn h1
   ·omega
  ·omega
 ·rcases old i b hb with ⟨j,hj⟩ | h1
  ·exact h.old j b hj
  ·exact .inr h1
theorem TurnsB.putC {P:Nat->Prop} {c:Nat} (hc:P c) (L:List Value) {a w:World} (k:Nat) (h:TurnsB P a w):TurnsB P a (Go.Proofs.YthpdlbcdbncnhaaGreatDoor.putC w c k L) :=
 h.trans ((TurnsB.grown (qej L w k (World.grownBy.refl w (some c)))).mono fun q e=>by cases e;exact hc)
structure VarG (w0:World) (lo:Nat) (v0:Sv) (vs0:List Lv) (w:World) (ob:Nat) (v:Sv) (vs:List Lv) (s:Sy):Prop where
 var:VarS w lo ob v vs s
 goes:Goes w0 lo v0 vs0 w v vs s
 new:w0.heap.size <= ob
section
variable {w0 w:World} {lo ob:Nat} {v0 v:Sv} {vs0 vs:List Lv} {s:Sy}
theorem VarG.start {w:World} {lo:Nat} {v:Sv} {vs:List Lv} {s:Sy} (h:OwnS w lo v vs s) (hl:lo <= w.heap.size):VarG w lo v vs (w.alloc (.cells (syc s v) 37)) w.heap.size v vs s :=
 ⟨VarS.new h hl,(Goes.refl h).behind ((Keeps.refl _).alloc _),Nat.le_refl _⟩
theorem VarG.keeps {w':World} (h:VarG w0 lo v0 vs0 w ob v vs s) (k:Keeps w w'):VarG w0 lo v0 vs0 w' ob v vs s:=⟨h.var.keeps k,h.goes.behind k,h.new⟩
theorem VarG.elsewhere (h:VarG w0 lo v0 vs0 w ob v vs s) {c:Nat} (hc:∀ i,¬ qah v vs i c) (hne:c≠ob) (hn:w0.heap.size <= c) (L:List Value) (k:Nat):VarG w0 lo v0 vs0 (putC w c k L) ob v vs s :=
 ⟨h.var.elsewhere hc hne L k,h.goes.step (OwnS.farC hc L k h.var.own) (TurnsB.putC (.inr hn) L k (TurnsB.refl _ _)) fun i _ hb => .inl ⟨i,hb⟩,h.new⟩
theorem VarG.task (h:VarG w0 lo v0 vs0 w ob v vs s) {rb:Nat} (ha:v.t.a=some ⟨rb,0,none⟩) {k:Nat} (hk:k < s.tasks.length) (x:Tsk):VarG w0 lo v0 vs0 (putC w rb (k*14) (tc x).toList) ob v vs { s with tasks:=s.tasks.set k x }:=by
 have ho:qah v vs 0 rb:=by show v.t.val.ownBlock=some rb;rw [Rw.val,ha];rfl
 exact ⟨h.var.task ha hk x,h.goes.step (h.var.task ha hk x).own (TurnsB.putC (.inl ⟨0,ho⟩) _ _ (TurnsB.refl _ _)) fun i _ hb => .inl ⟨i,hb⟩,h.new⟩
theorem VarG.num (h:VarG w0 lo v0 vs0 w ob v vs s) (now cpus seq missed:Int) {k:Nat} {x:Value} (e:(syc s v).setIfInBounds k x=syc { s with now:=now,cpus:=cpus,seq:=seq,missed:=missed } v) (hk:k < 9):VarG w0 lo v0 vs0 (w.setCell ⟨ob,k,none⟩ x) ob v vs { s with now:=now,cpus:=cpus,seq:=seq,missed:=missed }:=by
 have B:=h.var.box.set k (by simpa using hk) x
 rw [e] at B
 have O:OwnS (w.setCell ⟨ob,k,none⟩ x) lo v vs { s with now:=now,cpus:=cpus,seq:=seq,missed:=missed }:=(h.var.own.far h.var.far x).nums now cpus seq missed
 exact ⟨⟨B,O,h.var.lob,h.var.far⟩,h.goes.step O (TurnsB.putC (.inr h.new) [x] k (TurnsB.refl _ _)) fun i _ hb => .inl ⟨i,hb⟩,h.new⟩
theorem VarG.trace {w1 w2:World} (h:VarG w0 lo v0 vs0 w ob v vs s) (k:Keeps w w1) {x:Rw} {xs:List Tn} (O:Own 85 3 tnc w2 lo x.val xs) (g:w1.grownBy w2 v.r.val.ownBlock) (f:∀ q,x.val.ownBlock=some q->v.r.val.ownBlock=some q∨w1.heap.size <= q) :
  VarG w0 lo v0 vs0 (w2.setCell ⟨ob,8,none⟩ x.val) ob { v with r:=x } vs { s with trace:=xs }:=by
 have h1:=h.keeps k
 have hr:∀ q,v.r.val.ownBlock=some q->qah v vs 4 q:=fun q e=>e
 have S2:OwnS w2 lo { v with r:=x } vs { s with trace:=xs }:=h1.var.own.setR g.size (fun b hb hn=>g.block b hb (fun e=>hn e.symm)) x xs O f
 have lt1:=h1.var.box.lt
 have far2:∀ i,¬ qah { v with r:=x } vs i ob:=by
  intro i hi
  match i,hi with
  | 0,hi=>exact h.var.far 0 hi
  | 1,hi=>exact h.var.far 1 hi
  | 2,hi=>exact h.var.far 2 hi
  | 3,hi=>exact h.var.far 3 hi
  | 4,hi =>
   rcases f ob hi with h2 | h2
   ·exact h.var.far 4 h2
   ·omega
 have B2:Blk w2 ob (syc s v):=h1.var.box.grown g (fun q e e2=>h.var.far 4 (by rw [<- e2];exact hr q e))
 have O3:OwnS (w2.setCell ⟨ob,8,none⟩ x.val) lo { v with r:=x } vs { s with trace:=xs }:=S2.far far2 _
 refine ⟨⟨B2.set 8 (by simp) x.val,O3,h.var.lob,far2⟩,h1.goes.step O3 (TurnsB.putC (.inr h.new) [x.val] 8 ((TurnsB.grown g).mono fun q e => .inl ⟨4,e⟩)) fun i b hb => ?_,h.new⟩
 match i,hb with
 | 0,hb=>exact .inl ⟨0,hb⟩
 | 1,hb=>exact .inl ⟨1,hb⟩
 | 2,hb=>exact .inl ⟨2,hb⟩
 | 3,hb=>exact .inl ⟨3,hb⟩
 | 4,hb =>
  rcases f b hb with h2 | h2
  ·exact .inl ⟨4,h2⟩
  ·exact .inr (Nat.le_trans (Nat.le_trans h.goes.turn.size k.size) h2)
theorem VarG.ghosts {w1 w2:World} (h:VarG w0 lo v0 vs0 w ob v vs s) (k:Keeps w w1) {x:Rw} {xs:List Gh} (O:Own 107 4 ghc w2 lo x.val xs) (g:w1.grownBy w2 v.g.val.ownBlock) (f:∀ q,x.val.ownBlock=some q->v.g.val.ownBlock=some q∨w1.heap.size <= q) :
  VarG w0 lo v0 vs0 (w2.setCell ⟨ob,4,none⟩ x.val) ob { v with g:=x } vs { s with ghosts:=xs }:=by
 have h1:=h.keeps k
 have hr:∀ q,v.g.val.ownBlock=some q->qah v vs 2 q:=fun q e=>e
 have S2:OwnS w2 lo { v with g:=x } vs { s with ghosts:=xs }:=h1.var.own.setG g.size (fun b hb hn=>g.block b hb (fun e=>hn e.symm)) x xs O f
 have lt1:=h1.var.box.lt
 have far2:∀ i,¬ qah { v with g:=x } vs i ob:=by
  intro i hi
  match i,hi with
  | 0,hi=>exact h.var.far 0 hi
  | 1,hi=>exact h.var.far 1 hi
  | 2,hi =>
   rcases f ob hi with h2 | h2
   ·exact h.var.far 2 h2
   ·omega
  | 3,hi=>exact h.var.far 3 hi
  | 4,hi=>exact h.var.far 4 hi
 have B2:Blk w2 ob (syc s v):=h1.var.box.grown g (fun q e e2=>h.var.far 2 (by rw [<- e2];exact hr q e))
 have O3:OwnS (w2.setCell ⟨ob,4,none⟩ x.val) lo { v with g:=x } vs { s with ghosts:=xs }:=S2.far far2 _
 refine ⟨⟨B2.set 4 (by simp) x.val,O3,h.var.lob,far2⟩,h1.goes.step O3 (TurnsB.putC (.inr h.new) [x.val] 4 ((TurnsB.grown g).mono fun q e => .inl ⟨2,e⟩)) fun i b hb => ?_,h.new⟩
 match i,hb with
 | 0,hb=>exact .inl ⟨0,hb⟩
 | 1,hb=>exact .inl ⟨1,hb⟩
 | 2,hb =>
  rcases f b hb with h2 | h2
  ·exact .inl ⟨2,h2⟩
  ·exact .inr (Nat.le_trans (Nat.le_trans h.goes.turn.size k.size) h2)
 | 3,hb=>exact .inl ⟨3,hb⟩
 | 4,hb=>exact .inl ⟨4,hb⟩
theorem VarG.floor (h:VarG w0 lo v0 vs0 w ob v vs s) {fb:Nat} (ha:v.f.a=some ⟨fb,0,none⟩) {k:Nat} {y:Int} (hk:s.floors[k]?=some y) (x:Int):VarG w0 lo v0 vs0 (w.setCell ⟨fb,k,none⟩ (.int .i64 x)) ob v vs { s with floors:=s.floors.set k x }:=by
 have ho:qah v vs 3 fb:=by show v.f.val.ownBlock=some fb;rw [Rw.val,ha];rfl
 have hne:fb≠ob:=fun e=>h.var.far 3 (by rw [<- e];exact ho)
 have hn:=(h.var.own.f.row qaZ).1
 have hv:v.f.val = .slice (some ⟨fb,0,none⟩) s.floors.length v.f.cap:=by rw [Rw.val,ha,hn]
 have O:=h.var.own.f
 rw [hv] at O
 have O2:OwnN (w.setCell ⟨fb,k,none⟩ (.int .i64 x)) lo v.f.val (s.floors.set k x):=by
  rw [hv]
  have:=O.setAt qaZ (i:=k) (j:=0) (x:=y) (y:=x) (u := .int .i64 x) hk (by omega) rfl
  simpa using this
 have G:w.grownBy (w.setCell ⟨fb,k,none⟩ (.int .i64 x)) (some fb):=qej [.int .i64 x] w k (World.grownBy.refl w (some fb))
 have OS:OwnS (w.setCell ⟨fb,k,none⟩ (.int .i64 x)) lo v vs { s with floors:=s.floors.set k x }:=h.var.own.setF G.size (fun b hb hnn=>G.block b hb (fun e=>hnn (by cases e;exact ho))) v.f _ O2 (fun b e => .inl e)
 exact ⟨⟨h.var.box.far hne _,OS,h.var.lob,h.var.far⟩,h.goes.step OS ((TurnsB.grown G).mono fun q e=>by cases e;exact .inl ⟨3,ho⟩) fun i _ hb => .inl ⟨i,hb⟩,h.new⟩
theorem VarG.put {w':World} {v':Sv} {vs':List Lv} {s':Sy} (h:VarG w0 lo v0 vs0 w ob v vs s) (g:Goes w lo v vs w' v' vs' s'):VarG w0 lo v0 vs0 (putC w' ob 0 (syc s' v').toList) ob v' vs' s':=by
 have V:=h.var.put g
 refine ⟨V,(h.goes.trans g).step V.own (TurnsB.putC (.inr h.new) _ 0 (TurnsB.refl _ _)) fun i _ hb => .inl ⟨i,hb⟩,h.new⟩
theorem VarG.keepsZ {z:World} {s0:Sy} (h:VarG w0 lo v0 vs0 w ob v vs s) (h0:OwnS w0 lo v0 vs0 s0) (k:Keeps z w0) (hl:z.heap.size <= lo):Keeps z w:=h.goes.keeps h0 k hl
theorem OwnS.floorsAt {w:World} {lo:Nat} {v:Sv} {vs:List Lv} {s:Sy} (h:OwnS w lo v vs s) {k:Nat} (hk:k < s.floors.length):∃ fb,v.f.a=some ⟨fb,0,none⟩:=by
 obtain ⟨b,cap,e⟩:=h.f.blk (by omega)
 simp only [Rw.val,Value.slice.injEq] at e
 exact ⟨b,e.1⟩
theorem OwnS.floorCell {w:World} {lo:Nat} {v:Sv} {vs:List Lv} {s:Sy} (h:OwnS w lo v vs s) {fb:Nat} (ha:v.f.a=some ⟨fb,0,none⟩) {k:Nat} {x:Int} (hx:s.floors[k]?=some x):w.cell? ⟨fb,k,none⟩=some (.int .i64 x) /\ (∀ j,w.frozen? ⟨fb,j,none⟩=false) /\ fb < w.heap.size /\ lo <= fb:=by
 have hn:=(h.f.row qaZ).1
 have hv:v.f.val = .slice (some ⟨fb,0,none⟩) s.floors.length v.f.cap:=by rw [Rw.val,ha,hn]
 have O:=h.f
 rw [hv] at O
 have h1:=O.cellAt qaZ (i:=k) (k:=0) hx (by omega)
 have h2:=O.ltb fb rfl
 exact ⟨by simpa using h1,fun j=>O.frozenAt j,h2.2,h2.1⟩
end
theorem qn1 (s:Sy) (cpu:Int):(qa9 s cpu).cpus=s.cpus /\ (qa9 s cpu).now=s.now /\ qaj (qa9 s cpu)=qaj s+1 /\ s.seq <= (qa9 s cpu).seq /\ (qa9 s cpu).seq <= s.seq+1:=by
 unfold qa9
 split
 ·refine ⟨rfl,rfl,?_,Int.le_refl _,by show s.seq <= s.seq+1;omega⟩
  simp only [qaj,List.length_append,List.length_singleton]
  omega
 ·unfold qfh
  refine ⟨rfl,rfl,?_,?_,?_⟩
  ·simp only [qaj,List.length_append,List.length_singleton,List.length_set]
   omega
  ·dsimp only;split <;> omega
  ·dsimp only;split <;> omega
theorem qeS (s:Sy):∀ k:Nat,(qaE s k).cpus=s.cpus /\ (qaE s k).now=s.now /\ qaj (qaE s k)=qaj s+k /\ s.seq <= (qaE s k).seq /\ (qaE s k).seq <= s.seq+k
 | 0=>⟨rfl,rfl,rfl,Int.le_refl _,by simp [qaE]⟩
 | k+1=>by
  obtain ⟨h1,h2,h3,h4,h5⟩:=qeS s k
  obtain ⟨g1,g2,g3,g4,g5⟩:=qn1 (qaE s k) k
  have e:qaE s (k+1)=qa9 (qaE s k) k:=rfl
  rw [e]
  exact ⟨g1.trans h1,g2.trans h2,by omega,by omega,by omega⟩
theorem qiQ (s:Sy):qaj (qa3 s) <= qaj s:=by
 have:=List.length_filter_le (fun g=>decide (s.now < g.til)) s.ghosts
 simp only [qa3,qaj,List.length_map]
 omega
theorem qn2 (now:Int) (t:Tsk):(qbW now t).cpu=t.cpu:=by
 unfold qbW qca
 split
 ·split <;> rfl
 ·rfl
theorem qn3 {s:Sy} (h:qek s):qek (qa3 s):=by
 intro t ht
 simp only [qa3,List.mem_map] at ht
 obtain ⟨u,hu,rfl⟩:=ht
 rw [qn2]
 exact h u hu
theorem qiR (s:Sy):qaj (qaW s)=qaj s:=by simp [qaW,qaj]
theorem qiS (s:Sy):qaj (qbe s)=qaj s:=by simp [qbe,qaj]
end Go.Proofs.YthpdlbcdbncnhaaGreatDoor
namespace Go.Proofs.YthpdlbcdbncnhaaGreatDoor
set_option maxRecDepth 100000
open Go.RowKit
attribute [local go_sem] Keeps.refl Keeps.alloc Keeps.drew Keeps.drewN
theorem Blk.idle {w:World} {b:Nat} {t:Tsk} (h:Blk w b (tc t)) (c:Bool):Blk (w.setCell ⟨b,4,none⟩ (.bool c)) b (tc { t with idle:=c }):=h.set 4 (by simp) _
set_option maxHeartbeats 600000 in
theorem qn4 {w:World} {v:Sv} {s:Sy} (h:SysOn w v s) (hc:qek s) :
  Calls Tryz.prog 247 #[.agg (syc s v)] w fun e w'=>∃ v' vs',e = .returned (.agg (syc (qaW s) v')) /\ OwnS w' w.heap.size v' vs' (qaW s) /\ Keeps w w':=by
 obtain ⟨⟨ta,tn,tcap⟩,⟨la,ln,lcap⟩,⟨ga,gn,gcap⟩,⟨fa,fn,fcap⟩,⟨ra,rn,rcap⟩⟩:=v
 have hm1:tn <= 2000000:=by have:=h.size;have:=h.lay.tl;unfold qaj at *;dsimp only at *;omega
 have hm2:fn <= 2000000:=by have:=h.size;have:=h.lay.fl;unfold qaj at *;dsimp only at *;omega
 have Hn:Hid (s.tasks.length=tn):=h.lay.tl
 have Hfl:Hid (s.floors.length=fn):=h.lay.fl
 have HC:Hid (qek s):=hc
 have kZ:Keeps w ((w.alloc (.cells (syc s ⟨⟨ta,tn,tcap⟩,⟨la,ln,lcap⟩,⟨ga,gn,gcap⟩,⟨fa,fn,fcap⟩,⟨ra,rn,rcap⟩⟩) 37)).alloc (.cells zc 37)):=((Keeps.refl w).alloc _).alloc _
 have B0:Hid (Blk ((w.alloc (.cells (syc s ⟨⟨ta,tn,tcap⟩,⟨la,ln,lcap⟩,⟨ga,gn,gcap⟩,⟨fa,fn,fcap⟩,⟨ra,rn,rcap⟩⟩) 37)).alloc (.cells zc 37)) w.heap.size (syc s ⟨⟨ta,tn,tcap⟩,⟨la,ln,lcap⟩,⟨ga,gn,gcap⟩,⟨fa,fn,fcap⟩,⟨ra,rn,rcap⟩⟩)):=(Blk.new _ _ _).alloc _
 have R0:Hid (Blk ((w.alloc (.cells (syc s ⟨⟨ta,tn,tcap⟩,⟨la,ln,lcap⟩,⟨ga,gn,gcap⟩,⟨fa,fn,fcap⟩,⟨ra,rn,rcap⟩⟩) 37)).alloc (.cells zc 37)) (w.heap.size+1) zc):=by
  have:=Blk.new (w.alloc (.cells (syc s ⟨⟨ta,tn,tcap⟩,⟨la,ln,lcap⟩,⟨ga,gn,gcap⟩,⟨fa,fn,fcap⟩,⟨ra,rn,rcap⟩⟩) 37)) zc 37
  show Blk _ _ _
  simpa using this
 have hz:Hid (((w.alloc (.cells (syc s ⟨⟨ta,tn,tcap⟩,⟨la,ln,lcap⟩,⟨ga,gn,gcap⟩,⟨fa,fn,fcap⟩,⟨ra,rn,rcap⟩⟩) 37)).alloc (.cells zc 37)).heap.size=w.heap.size+2):=by show _=_;simp
 have HS:Hid (SysOn ((w.alloc (.cells (syc s ⟨⟨ta,tn,tcap⟩,⟨la,ln,lcap⟩,⟨ga,gn,gcap⟩,⟨fa,fn,fcap⟩,⟨ra,rn,rcap⟩⟩) 37)).alloc (.cells zc 37)) ⟨⟨ta,tn,tcap⟩,⟨la,ln,lcap⟩,⟨ga,gn,gcap⟩,⟨fa,fn,fcap⟩,⟨ra,rn,rcap⟩⟩ s):=h.keeps kZ
 clear h hc
 go_enter Tryz.func247,Tryz.ntmps247
 go_wp2_with fail
 change Calls _ _ _ ((w.alloc (.cells (syc s ⟨⟨ta,tn,tcap⟩,⟨la,ln,lcap⟩,⟨ga,gn,gcap⟩,⟨fa,fn,fcap⟩,⟨ra,rn,rcap⟩⟩) 37)).alloc (.cells zc 37)) _
 generalize (w.alloc (.cells (syc s ⟨⟨ta,tn,tcap⟩,⟨la,ln,lcap⟩,⟨ga,gn,gcap⟩,⟨fa,fn,fcap⟩,⟨ra,rn,rcap⟩⟩) 37)).alloc (.cells zc 37)=Z at *
 refine (qeh HS.out).mono ?_
 rintro e w1 ⟨vo,vso,rfl,O1,k1⟩
 obtain ⟨⟨ta',tn',tcap'⟩,⟨la',ln',lcap'⟩,⟨ga',gn',gcap'⟩,⟨fa',fn',fcap'⟩,⟨ra',rn',rcap'⟩⟩:=vo
 have VX:Hid (VarS (w1.alloc (.cells (syc s ⟨⟨ta',tn',tcap'⟩,⟨la',ln',lcap'⟩,⟨ga',gn',gcap'⟩,⟨fa',fn',fcap'⟩,⟨ra',rn',rcap'⟩⟩) 37)) Z.heap.size w1.heap.size ⟨⟨ta',tn',tcap'⟩,⟨la',ln',lcap'⟩,⟨ga',gn',gcap'⟩,⟨fa',fn',fcap'⟩,⟨ra',rn',rcap'⟩⟩ vso s):=VarS.new O1 k1.size
 have KX:Hid (Keeps Z (w1.alloc (.cells (syc s ⟨⟨ta',tn',tcap'⟩,⟨la',ln',lcap'⟩,⟨ga',gn',gcap'⟩,⟨fa',fn',fcap'⟩,⟨ra',rn',rcap'⟩⟩) 37))):=k1.alloc _
 have htn':Hid (tn'=tn):=by have:=(O1.t.row qaw).1;show _=_;rw [<- Hn.out,this]
 clear O1 k1
 go_wp2_with fail
 change Code.wp _ _ _ _ (w1.alloc (.cells (syc s ⟨⟨ta',tn',tcap'⟩,⟨la',ln',lcap'⟩,⟨ga',gn',gcap'⟩,⟨fa',fn',fcap'⟩,⟨ra',rn',rcap'⟩⟩) 37))
 generalize w1.alloc (.cells (syc s ⟨⟨ta',tn',tcap'⟩,⟨la',ln',lcap'⟩,⟨ga',gn',gcap'⟩,⟨fa',fn',fcap'⟩,⟨ra',rn',rcap'⟩⟩) 37)=X at *
 generalize w1.heap.size=ob at *
 rw [htn'.out] at VX
 have hb:∀ w',Keeps Z w'->∀ j,w'.cell? ⟨w.heap.size,j,none⟩=(syc s ⟨⟨ta,tn,tcap⟩,⟨la,ln,lcap⟩,⟨ga,gn,gcap⟩,⟨fa,fn,fcap⟩,⟨ra,rn,rcap⟩⟩)[j]?:=fun w' k=>(B0.out.keeps k).cells
 dsimp only [syc] at hb
 clear B0
 go_loopw [4] (fun i wr=>∃ (k:Nat) (ys:List Tsk),k <= tn /\ i = .int .i64 k /\ Hid (VarS wr Z.heap.size ob ⟨⟨ta',tn,tcap'⟩,⟨la',ln',lcap'⟩,⟨ga',gn',gcap'⟩,⟨fa',fn',fcap'⟩,⟨ra',rn',rcap'⟩⟩ vso { s with tasks:=ys }) /\ Hid (ys.length=tn) /\ Hid (∀ (j:Nat) (t:Tsk),j < k->s.tasks[j]?=some t->ys[j]?=some (qcN s t)) /\ Keeps Z wr) (fun i _=>tn - (intOf i).toNat)
 case atStart=>exact ⟨0,s.tasks,Nat.zero_le _,rfl,VX,Hn,fun j t hj=>by omega,KX.out⟩
 case round =>
  obtain ⟨k,ys,hk,rfl,V,hy,hf,hK⟩:=hrel
  clear VX KX
  by_cases hlt:k < tn
  ·have hlt':(k:Int) < (tn:Int):=by omega
   obtain ⟨t,ht⟩:=qai (xs:=s.tasks) (k:=k) (by rw [Hn.out];exact hlt)
   have ht0:Ts Z ta s.tasks:=HS.out.lay.t
   obtain ⟨b,off,rfl,r0,r1⟩:=ht0.at ht (by omega)
   have HT:Hid (s.tasks[k]?=some t):=ht
   obtain ⟨rb,hrb⟩:=V.out.own.tasksAt (k:=k) (by show _ < ys.length;rw [hy.out];exact hlt)
   dsimp only at hrb
   subst hrb
   obtain ⟨y,hyk⟩:=qai (xs:=ys) (k:=k) (by rw [hy.out];exact hlt)
   have Hy:Hid (ys[k]?=some y):=hyk
   have hcp:=HC.out t (List.mem_of_getElem? ht)
   have hcp1:0 <= t.cpu:=hcp.1
   have hcp2:t.cpu < (fn:Int):=by have:=hcp.2;rw [Hfl.out] at this;exact this
   clear ht hyk ht0 hcp
   go_wp2_with fail
   change Calls _ _ _ (wr.alloc (.cells (tc t) 47)) _
   have KY:Keeps Z (wr.alloc (.cells (tc t) 47)):=hK.alloc _
   have TB:Hid (Blk (wr.alloc (.cells (tc t) 47)) wr.heap.size (tc t)):=Blk.new _ _ _
   have VY:Hid (VarS (wr.alloc (.cells (tc t) 47)) Z.heap.size ob ⟨⟨some ⟨rb,0,none⟩,tn,tcap'⟩,⟨la',ln',lcap'⟩,⟨ga',gn',gcap'⟩,⟨fa',fn',fcap'⟩,⟨ra',rn',rcap'⟩⟩ vso { s with tasks:=ys }):=V.out.keeps ((Keeps.refl _).alloc _)
   have FT:Hid (∀ i,¬ qah ⟨⟨some ⟨rb,0,none⟩,tn,tcap'⟩,⟨la',ln',lcap'⟩,⟨ga',gn',gcap'⟩,⟨fa',fn',fcap'⟩,⟨ra',rn',rcap'⟩⟩ vso i wr.heap.size):=fun i hi=>by have:=(V.out.own.blkLt hi).2;omega
   have GT:Hid (wr.heap.size≠ob):=by have:=V.out.box.lt;show _≠_;omega
   have ZT:Hid (Z.heap.size <= wr.heap.size):=hK.size
   clear V hK
   generalize wr.alloc (.cells (tc t) 47)=Y at *
   generalize wr.heap.size=tb at *
   have TW:Two Y (some ⟨b,off,none⟩) tn tcap s.tasks la ln lcap s.locks:=⟨(HS.out.keeps KY).onT,(HS.out.keeps KY).onL⟩
   refine (qif TW t.no).mono ?_
   rintro e w2 ⟨rfl,k2⟩
   have K2:Keeps Z w2:=KY.trans k2
   have T2:Hid (Blk w2 tb (tc t)):=TB.out.keeps k2
   have V2:Hid (VarS w2 Z.heap.size ob ⟨⟨some ⟨rb,0,none⟩,tn,tcap'⟩,⟨la',ln',lcap'⟩,⟨ga',gn',gcap'⟩,⟨fa',fn',fcap'⟩,⟨ra',rn',rcap'⟩⟩ vso { s with tasks:=ys }):=VY.out.keeps k2
   clear TB VY KY k2 TW
   obtain ⟨c,Hc⟩:∃ c,Hid (qbF s.tasks s.locks t.no=c):=⟨_,rfl⟩
   rw [Hc.out]
   cases c
   ·have HW1:Hid (qcN s t={ t with idle:=true }):=by show _=_;unfold qcN;rw [Hc.out];rfl
    obtain ⟨_,q1,q2⟩:=T2.out
    go_upto_region 11 with fail
    have D3:Hid (Blk (w2.setCell ⟨tb,4,none⟩ (.bool true)) tb (tc { t with idle:=true })):=T2.out.idle true
    have V3:Hid (VarS (w2.setCell ⟨tb,4,none⟩ (.bool true)) Z.heap.size ob ⟨⟨some ⟨rb,0,none⟩,tn,tcap'⟩,⟨la',ln',lcap'⟩,⟨ga',gn',gcap'⟩,⟨fa',fn',fcap'⟩,⟨ra',rn',rcap'⟩⟩ vso { s with tasks:=ys }):=V2.out.elsewhere FT.out GT.out [.bool true] 4
    have K3:Keeps Z (w2.setCell ⟨tb,4,none⟩ (.bool true)):=K2.setCell (p:=⟨tb,4,none⟩) ZT.out _
    clear q1 q2 K2 T2 V2
    generalize w2.setCell ⟨tb,4,none⟩ (.bool true)=X3 at *
    obtain ⟨_,d1,d2⟩:=D3.out
    obtain ⟨_,o1,o2⟩:=V3.out.box
    dsimp only [syc] at o1
    obtain ⟨z1,z2⟩:=V3.out.own.taskCells (rb:=rb) rfl (k:=k) (t:=y) Hy.out
    have y0:X3.cell? ⟨rb,k*14,none⟩=some (.int .i64 y.no):=z1 0 (by omega)
    go_upto_region 4 with fail
    have V4:Hid (VarS (putC X3 rb (k*14) (tc { t with idle:=true }).toList) Z.heap.size ob ⟨⟨some ⟨rb,0,none⟩,tn,tcap'⟩,⟨la',ln',lcap'⟩,⟨ga',gn',gcap'⟩,⟨fa',fn',fcap'⟩,⟨ra',rn',rcap'⟩⟩ vso { s with tasks:=ys.set k { t with idle:=true } }):=V3.out.task (rb:=rb) rfl (by show _ < ys.length;rw [hy.out];exact hlt) { t with idle:=true }
    have K4:Hid (Keeps Z (putC X3 rb (k*14) (tc { t with idle:=true }).toList)):=V3.out.taskKeeps (rb:=rb) rfl (k*14) (tc { t with idle:=true }).toList K3 (Nat.le_refl _)
    change Code.wp _ _ _ _ (putC X3 rb (k*14) (tc { t with idle:=true }).toList)
    clear V3 K3 d1 d2 o1 o2 z1 z2 y0 D3
    generalize putC X3 rb (k*14) (tc { t with idle:=true }).toList=X4 at *
    go_wp2
    refine ⟨⟨k+1,ys.set k { t with idle:=true },by omega,by go_num,V4,by show _=_;simpa using hy.out,?_,K4.out⟩,by simp only [intOf];omega⟩
    intro j t2 hj hj2
    by_cases e:j=k
    ·subst e
     rw [HT.out] at hj2
     cases hj2
     rw [HW1.out]
     exact List.getElem?_set_self (by rw [hy.out];exact hlt)
    ·rw [List.getElem?_set_ne (Ne.symm e)]
     exact hf.out j t2 (by omega) hj2
   cases c2:t.idle
   ·have HW1:Hid (qcN s t={ t with idle:=false }):=by show _=_;unfold qcN;rw [Hc.out,c2];rfl
    obtain ⟨_,q1,q2⟩:=T2.out
    go_upto_region 11 with fail
    have D3:Hid (Blk (w2.setCell ⟨tb,4,none⟩ (.bool false)) tb (tc { t with idle:=false })):=T2.out.idle false
    have V3:Hid (VarS (w2.setCell ⟨tb,4,none⟩ (.bool false)) Z.heap.size ob ⟨⟨some ⟨rb,0,none⟩,tn,tcap'⟩,⟨la',ln',lcap'⟩,⟨ga',gn',gcap'⟩,⟨fa',fn',fcap'⟩,⟨ra',rn',rcap'⟩⟩ vso { s with tasks:=ys }):=V2.out.elsewhere FT.out GT.out [.bool false] 4
    have K3:Keeps Z (w2.setCell ⟨tb,4,none⟩ (.bool false)):=K2.setCell (p:=⟨tb,4,none⟩) ZT.out _
    clear q1 q2 K2 T2 V2
    generalize w2.setCell ⟨tb,4,none⟩ (.bool false)=X3 at *
    obtain ⟨_,d1,d2⟩:=D3.out
    obtain ⟨_,o1,o2⟩:=V3.out.box
    dsimp only [syc] at o1
    obtain ⟨z1,z2⟩:=V3.out.own.taskCells (rb:=rb) rfl (k:=k) (t:=y) Hy.out
    have y0:X3.cell? ⟨rb,k*14,none⟩=some (.int .i64 y.no):=z1 0 (by omega)
    go_upto_region 4 with fail
    have V4:Hid (VarS (putC X3 rb (k*14) (tc { t with idle:=false }).toList) Z.heap.size ob ⟨⟨some ⟨rb,0,none⟩,tn,tcap'⟩,⟨la',ln',lcap'⟩,⟨ga',gn',gcap'⟩,⟨fa',fn',fcap'⟩,⟨ra',rn',rcap'⟩⟩ vso { s with tasks:=ys.set k { t with idle:=false } }):=V3.out.task (rb:=rb) rfl (by show _ < ys.length;rw [hy.out];exact hlt) { t with idle:=false }
    have K4:Hid (Keeps Z (putC X3 rb (k*14) (tc { t with idle:=false }).toList)):=V3.out.taskKeeps (rb:=rb) rfl (k*14) (tc { t with idle:=false }).toList K3 (Nat.le_refl _)
    change Code.wp _ _ _ _ (putC X3 rb (k*14) (tc { t with idle:=false }).toList)
    clear V3 K3 d1 d2 o1 o2 z1 z2 y0 D3
    generalize putC X3 rb (k*14) (tc { t with idle:=false }).toList=X4 at *
    go_wp2
    refine ⟨⟨k+1,ys.set k { t with idle:=false },by omega,by go_num,V4,by show _=_;simpa using hy.out,?_,K4.out⟩,by simp only [intOf];omega⟩
    intro j t2 hj hj2
    by_cases e:j=k
    ·subst e
     rw [HT.out] at hj2
     cases hj2
     rw [HW1.out]
     exact List.getElem?_set_self (by rw [hy.out];exact hlt)
    ·rw [List.getElem?_set_ne (Ne.symm e)]
     exact hf.out j t2 (by omega) hj2
   ·obtain ⟨cn,hcn⟩:∃ cn:Nat,t.cpu=(cn:Int):=⟨t.cpu.toNat,by omega⟩
    have hcn2:(cn:Int) < (fn:Int):=by omega
    have hcn3:cn < fn:=by omega
    obtain ⟨fl,hfl⟩:=qai (xs:=s.floors) (k:=cn) (by rw [Hfl.out];exact hcn3)
    have HFl:Hid (s.floors.getD t.cpu.toNat 0=fl):=by show _=_;rw [hcn,Int.toNat_natCast,List.getD_eq_getElem?_getD,hfl];rfl
    have HW0:Hid (qcN s t={ qdy (qb3 { t with idle:=false } s.now) fl with idle:=false }):=by show _=_;unfold qcN;rw [Hc.out,c2,HFl.out];rfl
    clear HFl
    obtain ⟨u,rfl⟩:∃ u:Tsk,t={ u with idle:=true,cpu:=(cn:Int) }:=⟨t,by rw [<- c2,<- hcn]⟩
    have ht1:Ns Z fa s.floors:=HS.out.lay.f
    obtain ⟨fb,foff,rfl,f0⟩:=ht1.at hfl
    clear c2 hcn hfl ht1 hcp1 hcp2
    obtain ⟨N1,HN1⟩:∃ N,Hid (qb3 { u with idle:=false,cpu:=(cn:Int) } s.now=N):=⟨_,rfl⟩
    obtain ⟨N2,HN2⟩:∃ N,Hid (qdy N1 fl=N):=⟨_,rfl⟩
    have HW1:Hid (qcN s { u with idle:=true,cpu:=(cn:Int) }={ N2 with idle:=false }):=by show _=_;rw [HW0.out,<- HN2.out,<- HN1.out]
    clear HW0
    obtain ⟨_,q1,q2⟩:=T2.out
    go_upto_region 9 with fail
    have D1:Hid (Blk (w2.setCell ⟨tb,4,none⟩ (.bool false)) tb (tc { u with idle:=false,cpu:=(cn:Int) })):=T2.out.idle false
    have V1:Hid (VarS (w2.setCell ⟨tb,4,none⟩ (.bool false)) Z.heap.size ob ⟨⟨some ⟨rb,0,none⟩,tn,tcap'⟩,⟨la',ln',lcap'⟩,⟨ga',gn',gcap'⟩,⟨fa',fn',fcap'⟩,⟨ra',rn',rcap'⟩⟩ vso { s with tasks:=ys }):=V2.out.elsewhere FT.out GT.out [.bool false] 4
    have K1:Keeps Z (w2.setCell ⟨tb,4,none⟩ (.bool false)):=K2.setCell (p:=⟨tb,4,none⟩) ZT.out _
    clear q1 q2 K2 T2 V2
    generalize w2.setCell ⟨tb,4,none⟩ (.bool false)=X1 at *
    have H0:Hid (Has Z tb (tc { u with idle:=false,cpu:=(cn:Int) }) X1):=⟨K1,D1.out⟩
    have q0:∀ w',Has Z tb (tc { u with idle:=false,cpu:=(cn:Int) }) w'->∀ j,w'.cell? ⟨tb,j,none⟩=(tc { u with idle:=false,cpu:=(cn:Int) })[j]?:=fun w' h=>h.box.cells
    have f1:∀ w',Has Z tb (tc { u with idle:=false,cpu:=(cn:Int) }) w'->w'.cell? ⟨fb,foff+cn,none⟩=some (.int .i64 fl):=fun w' h=>f0 w' h.keeps
    have hb2:∀ w',Has Z tb (tc { u with idle:=false,cpu:=(cn:Int) }) w'->∀ j,w'.cell? ⟨w.heap.size,j,none⟩=_:=fun w' h=>hb w' h.keeps
    clear f0 r0 r1 D1
    refine qc1 11 (S:=(fun w'=>Has Z tb (tc { u with idle:=false,cpu:=(cn:Int) }) w')) (by kernel_rfl) ?_ (fun hHeld => ?_)
    ·exact H0.out.go (Keeps.refl _).drew
    refine Plan.go [0,1,2,4,5,6,7,8,9] ?_
    iterate 9 (refine qbv (by simp only [qab];rfl) (by kernel_rfl) (by exact fun _ _ _ h=>h) (by rfl) (by assumption) (fun w _=>by go_simp;try (with_reducible rfl)) ?_;try simp only [qaa])
    refine Plan.nil ?_
    refine qbq (i:=3) (by kernel_rfl) (by simp only [List.getElem?_toArray,List.getElem?_cons_succ,List.getElem?_cons_zero];rfl) (fun K hK => ?_)
    go_simp
    first
     | (go_at_call 253;refine (qgX { u with idle:=false,cpu:=(cn:Int) } s.now _).mono ?_;rintro e w3 ⟨rfl,k3⟩;rw [HN1.out])
     | (go_at_call 252;refine (qgY N1 fl _).mono ?_;rintro e w4 ⟨rfl,k4⟩;rw [HN2.out])
    try go_wp2_with fail
    refine hK.out _ _ ?_ (fun hHeld => ?_)
    ·exact Has.go (by assumption) (by assumption)
    clear hK K
    try simp only [qaa]
    refine qbq (i:=10) (by kernel_rfl) (by simp only [List.getElem?_toArray,List.getElem?_cons_succ,List.getElem?_cons_zero];rfl) (fun K hK => ?_)
    go_simp
    first
     | (go_at_call 253;refine (qgX { u with idle:=false,cpu:=(cn:Int) } s.now _).mono ?_;rintro e w3 ⟨rfl,k3⟩;rw [HN1.out])
     | (go_at_call 252;refine (qgY N1 fl _).mono ?_;rintro e w4 ⟨rfl,k4⟩;rw [HN2.out])
    try go_wp2_with fail
    refine hK.out _ _ ?_ (fun hHeld => ?_)
    ·exact Has.go (by assumption) (by assumption)
    clear hK K
    try simp only [qaa]
    refine qc0 (by kernel_rfl) (by simp only [List.getElem?_toArray,List.getElem?_cons_succ,List.getElem?_cons_zero];rfl) (by kernel_rfl) (fun K hK => ?_)
    have HB:Has Z tb (tc { u with idle:=false,cpu:=(cn:Int) }) w4:=(by assumption);obtain ⟨_,e1,e2⟩:=HB.box
    go_simp
    try go_wp2_with fail
    refine hK.out _ _ ?_
    clear hK K
    try simp only [qaa]
    have D2:Hid (Blk (putC w4 tb 0 (tc N2).toList) tb (tc N2)):=HB.box.putC (tc N2).toList rfl
    have kk:Keeps X1 w4:=((Keeps.refl X1).drew.trans k3).trans k4
    have V2:Hid (VarS (putC w4 tb 0 (tc N2).toList) Z.heap.size ob ⟨⟨some ⟨rb,0,none⟩,tn,tcap'⟩,⟨la',ln',lcap'⟩,⟨ga',gn',gcap'⟩,⟨fa',fn',fcap'⟩,⟨ra',rn',rcap'⟩⟩ vso { s with tasks:=ys }):=(V1.out.keeps kk).elsewhere FT.out GT.out (tc N2).toList 0
    have K2:Keeps Z (putC w4 tb 0 (tc N2).toList):=Keeps.putC (b:=tb) ZT.out _ 0 HB.keeps
    change Exit.then _ _ _ _ (putC w4 tb 0 (tc N2).toList)
    clear e1 e2 q0 f1 hb2 H0 kk k3 k4 HB V1 K1 hHeld
    generalize putC w4 tb 0 (tc N2).toList=X2 at *
    obtain ⟨_,q1,q2⟩:=D2.out
    go_upto_region 11 with fail
    have D3:Hid (Blk (X2.setCell ⟨tb,4,none⟩ (.bool false)) tb (tc { N2 with idle:=false })):=D2.out.idle false
    have V3:Hid (VarS (X2.setCell ⟨tb,4,none⟩ (.bool false)) Z.heap.size ob ⟨⟨some ⟨rb,0,none⟩,tn,tcap'⟩,⟨la',ln',lcap'⟩,⟨ga',gn',gcap'⟩,⟨fa',fn',fcap'⟩,⟨ra',rn',rcap'⟩⟩ vso { s with tasks:=ys }):=V2.out.elsewhere FT.out GT.out [.bool false] 4
    have K3:Keeps Z (X2.setCell ⟨tb,4,none⟩ (.bool false)):=K2.setCell (p:=⟨tb,4,none⟩) ZT.out _
    clear q1 q2 K2 D2 V2
    generalize X2.setCell ⟨tb,4,none⟩ (.bool false)=X3 at *
    obtain ⟨_,d1,d2⟩:=D3.out
    obtain ⟨_,o1,o2⟩:=V3.out.box
    dsimp only [syc] at o1
    obtain ⟨z1,z2⟩:=V3.out.own.taskCells (rb:=rb) rfl (k:=k) (t:=y) Hy.out
    have y0:X3.cell? ⟨rb,k*14,none⟩=some (.int .i64 y.no):=z1 0 (by omega)
    go_upto_region 4 with fail
    have V4:Hid (VarS (putC X3 rb (k*14) (tc { N2 with idle:=false }).toList) Z.heap.size ob ⟨⟨some ⟨rb,0,none⟩,tn,tcap'⟩,⟨la',ln',lcap'⟩,⟨ga',gn',gcap'⟩,⟨fa',fn',fcap'⟩,⟨ra',rn',rcap'⟩⟩ vso { s with tasks:=ys.set k { N2 with idle:=false } }):=V3.out.task (rb:=rb) rfl (by show _ < ys.length;rw [hy.out];exact hlt) { N2 with idle:=false }
    have K4:Hid (Keeps Z (putC X3 rb (k*14) (tc { N2 with idle:=false }).toList)):=V3.out.taskKeeps (rb:=rb) rfl (k*14) (tc { N2 with idle:=false }).toList K3 (Nat.le_refl _)
    change Code.wp _ _ _ _ (putC X3 rb (k*14) (tc { N2 with idle:=false }).toList)
    clear V3 K3 d1 d2 o1 o2 z1 z2 y0 D3
    generalize putC X3 rb (k*14) (tc { N2 with idle:=false }).toList=X4 at *
    go_wp2
    refine ⟨⟨k+1,ys.set k { N2 with idle:=false },by omega,by go_num,V4,by show _=_;simpa using hy.out,?_,K4.out⟩,by simp only [intOf];omega⟩
    intro j t2 hj hj2
    by_cases e:j=k
    ·subst e
     rw [HT.out] at hj2
     cases hj2
     rw [HW1.out]
     exact List.getElem?_set_self (by rw [hy.out];exact hlt)
    ·rw [List.getElem?_set_ne (Ne.symm e)]
     exact hf.out j t2 (by omega) hj2
  ·have hlt':decide ((k:Int) < (tn:Int))=false:=by simp;omega
   have HE:Hid (ys=s.tasks.map (qcN s)):=by
    show _=_
    apply List.ext_getElem?
    intro j
    rw [List.getElem?_map]
    cases e:s.tasks[j]? with
    | none =>
     have:s.tasks.length <= j:=List.getElem?_eq_none_iff.1 e
     rw [List.getElem?_eq_none (by rw [hy.out,<- Hn.out];exact this)];rfl
    | some t=>exact hf.out j t (by have:=qas e;rw [Hn.out] at this;omega) e
   have hRb:Blk wr (w.heap.size+1) zc:=R0.out.keeps hK
   obtain ⟨_,e1,e2⟩:=hRb
   obtain ⟨_,o1,o2⟩:=V.out.box
   dsimp only [syc] at o1
   go_wp2
   have D:=(R0.out.keeps hK).putC (syc s ⟨⟨ta',tn,tcap'⟩,⟨la',ln',lcap'⟩,⟨ga',gn',gcap'⟩,⟨fa',fn',fcap'⟩,⟨ra',rn',rcap'⟩⟩).toList rfl
   have KZ:=Keeps.putC (b:=w.heap.size+1) (by omega) (syc s ⟨⟨ta',tn,tcap'⟩,⟨la',ln',lcap'⟩,⟨ga',gn',gcap'⟩,⟨fa',fn',fcap'⟩,⟨ra',rn',rcap'⟩⟩).toList 0 (kZ.trans hK)
   have S0:OwnS (putC wr (w.heap.size+1) 0 (syc s ⟨⟨ta',tn,tcap'⟩,⟨la',ln',lcap'⟩,⟨ga',gn',gcap'⟩,⟨fa',fn',fcap'⟩,⟨ra',rn',rcap'⟩⟩).toList) w.heap.size ⟨⟨ta',tn,tcap'⟩,⟨la',ln',lcap'⟩,⟨ga',gn',gcap'⟩,⟨fa',fn',fcap'⟩,⟨ra',rn',rcap'⟩⟩ vso (qaW s):=by
    have h1:OwnS wr Z.heap.size ⟨⟨ta',tn,tcap'⟩,⟨la',ln',lcap'⟩,⟨ga',gn',gcap'⟩,⟨fa',fn',fcap'⟩,⟨ra',rn',rcap'⟩⟩ vso (qaW s):=by
     have:=V.out.own
     rw [HE.out] at this
     exact this
    exact (OwnS.farC (fun i hi=>by have:=(h1.blkLt hi).1;have:=hz.out;omega) _ _ h1).base (by have:=hz.out;omega)
   change bodyPost _ _ _ _ _ (putC wr (w.heap.size+1) 0 (syc s ⟨⟨ta',tn,tcap'⟩,⟨la',ln',lcap'⟩,⟨ga',gn',gcap'⟩,⟨fa',fn',fcap'⟩,⟨ra',rn',rcap'⟩⟩).toList)
   generalize putC wr (w.heap.size+1) 0 (syc s ⟨⟨ta',tn,tcap'⟩,⟨la',ln',lcap'⟩,⟨ga',gn',gcap'⟩,⟨fa',fn',fcap'⟩,⟨ra',rn',rcap'⟩⟩).toList=Q at D KZ S0 ⊢
   exact bodyPost_ret (v := .agg (syc s ⟨⟨ta',tn,tcap'⟩,⟨la',ln',lcap'⟩,⟨ga',gn',gcap'⟩,⟨fa',fn',fcap'⟩,⟨ra',rn',rcap'⟩⟩)) (by simp [results,Tryz.results247,go_sem,D.cells]) rfl ⟨_,vso,rfl,S0,KZ⟩
def qn5:Prop:=∀ (w:World) (v:Sv) (s:Sy) (cpu:Int),SysOn w v s->Calls Tryz.prog 178 #[.agg (syc s v),.int .i64 cpu] w fun e w'=>∃ u,e = .returned u /\ OwnP w' w.heap.size u (qaL s cpu) /\ Keeps w w'
end Go.Proofs.YthpdlbcdbncnhaaGreatDoor
