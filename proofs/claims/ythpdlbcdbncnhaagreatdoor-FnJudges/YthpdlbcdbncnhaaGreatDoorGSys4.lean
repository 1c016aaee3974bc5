/-
  The system: the laws' own copy of it. The system: two that
  A system of one's own, in a variable: calls that turn it, s
-/
import Derived.Test.YthpdlbcdbncnhaaGreatDoorGSys2
import Derived.Test.YthpdlbcdbncnhaaGreatDoorGLock3
import Derived.Test.YthpdlbcdbncnhaaGreatDoorGTask3
import Derived.Test.YthpdlbcdbncnhaaGreatDoorGLock2
import Derived.RegionTactic
import Derived.BigRegion
import Derived.Deep.RegionHeld3
import Derived.Test.YthpdlbcdbncnhaaGreatDoorGPure2
import Derived.Test.YthpdlbcdbncnhaaGreatDoorGDff1
namespace Go.Proofs.YthpdlbcdbncnhaaGreatDoor
set_option maxRecDepth 100000
open Go.RowKit
attribute [local go_sem] Keeps.refl Keeps.alloc Keeps.drew Keeps.drewN
theorem qaM {X w':World} {b k:Nat} {C:Array Value} (h:Keeps X w') (B:Blk X b C) (hk:k < C.size) (u:Value):Blk w' b C /\ KeepsBut b X (w'.setCell ⟨b,k,none⟩ u) /\ Blk (w'.setCell ⟨b,k,none⟩ u) b (C.setIfInBounds k u) :=
 ⟨B.keeps h,(KeepsBut.of h).setCell k u,(B.keeps h).set k hk u⟩
theorem qej {w:World} {b:Nat}:∀ (L:List Value) (x:World) (k:Nat),w.grownBy x (some b)->w.grownBy (putC x b k L) (some b)
 | [],_,_,h=>h
 | v::r,x,k,h=>qej r _ (k+1) ⟨h.os,h.tape,h.output,Nat.le_trans h.size (by simp),fun q hq hne=>(qbl (by intro e;subst e;exact hne rfl)).trans (h.block q hq hne)⟩
structure TurnsB (P:Nat->Prop) (w w':World):Prop where
 os:w'.os=w.os
 tape:w'.tape=w.tape
 output:w'.output=w.output
 size:w.heap.size <= w'.heap.size
 block:∀ b,b < w.heap.size->¬ P b->w'.heap[b]?=w.heap[b]?
theorem TurnsB.refl (P:Nat->Prop) (w:World):TurnsB P w w:=⟨rfl,rfl,rfl,Nat.le_refl _,fun _ _ _=>rfl⟩
theorem TurnsB.trans {P:Nat->Prop} {a b c:World} (h:TurnsB P a b) (k:TurnsB P b c):TurnsB P a c :=
 ⟨k.os.trans h.os,k.tape.trans h.tape,k.output.trans h.output,Nat.le_trans h.size k.size,fun q hq hn=>(k.block q (Nat.lt_of_lt_of_le hq h.size) hn).trans (h.block q hq hn)⟩
theorem TurnsB.mono {P Q:Nat->Prop} {a b:World} (h:TurnsB P a b) (k:∀ q,P q->Q q):TurnsB Q a b:=⟨h.os,h.tape,h.output,h.size,fun q hq hn=>h.block q hq fun hp=>hn (k q hp)⟩
theorem TurnsB.grown {a b:World} {row:Option Nat} (h:a.grownBy b row):TurnsB (fun q=>row=some q) a b:=⟨h.os,h.tape,h.output,h.size,fun q hq hn=>h.block q hq fun e=>hn e.symm⟩
theorem TurnsB.keeps {P:Nat->Prop} {w a b:World} (h:TurnsB P a b) (k:Keeps w a) (hp:∀ q,P q->w.heap.size <= q):Keeps w b :=
 Below.trans k ⟨h.os,h.tape,h.output,h.size,fun i hi=>h.block i (Nat.lt_of_lt_of_le hi k.size) fun hq=>by have:=hp i hq;omega⟩
end Go.Proofs.YthpdlbcdbncnhaaGreatDoor
namespace Go.Proofs.YthpdlbcdbncnhaaGreatDoor
set_option maxRecDepth 100000
open Go.RowKit
def qek (s:Sy):Prop:=∀ t∈s.tasks,0 <= t.cpu /\ t.cpu < (s.floors.length:Int)
theorem OwnS.aside {w w':World} {lo:Nat} {v:Sv} {vs:List Lv} {s:Sy} (h:OwnS w lo v vs s) (hz:w.heap.size <= w'.heap.size) (k:∀ i b,qah v vs i b->w'.heap[b]?=w.heap[b]?):OwnS w' lo v vs s :=
 ⟨h.t.same fun b e=>k 0 b e,(h.l.sameB fun b e=>k 1 b e).widen (Nat.le_refl _) hz,h.g.same fun b e=>k 2 b e,h.f.same fun b e=>k 3 b e,h.r.same fun b e=>k 4 b e,h.ap⟩
theorem OwnS.far {w:World} {lo:Nat} {v:Sv} {vs:List Lv} {s:Sy} (h:OwnS w lo v vs s) {c o:Nat} (hc:∀ i,¬ qah v vs i c) (x:Value):OwnS (w.setCell ⟨c,o,none⟩ x) lo v vs s :=
 h.aside (by simp) fun i b hb=>qbl (by intro e;subst e;exact hc i hb)
theorem OwnS.farC {lo:Nat} {v:Sv} {vs:List Lv} {s:Sy} {c:Nat} (hc:∀ i,¬ qah v vs i c):∀ (L:List Value) {w:World} (k:Nat),OwnS w lo v vs s->OwnS (putC w c k L) lo v vs s
 | [],_,_,h=>h
 | x::r,_,k,h=>OwnS.farC hc r (k+1) (h.far hc x)
theorem OwnS.storeT {w:World} {lo:Nat} {v:Sv} {vs:List Lv} {s:Sy} (h:OwnS w lo v vs s) {rb:Nat} (ha:v.t.a=some ⟨rb,0,none⟩) {k:Nat} (hk:k < s.tasks.length) (x:Tsk) :
  OwnS (putC w rb (k*14) (tc x).toList) lo v vs { s with tasks:=s.tasks.set k x } /\ TurnsB (qah v vs 0) w (putC w rb (k*14) (tc x).toList):=by
 have hn:=(h.t.row qaw).1
 have hv:v.t.val = .slice (some ⟨rb,0,none⟩) s.tasks.length v.t.cap:=by rw [Rw.val,ha,hn]
 have O:=h.t
 rw [hv] at O
 have G:w.grownBy (putC w rb (k*14) (tc x).toList) (some rb):=qej _ _ _ (World.grownBy.refl _ _)
 have ho:v.t.val.ownBlock=some rb:=by rw [hv];rfl
 refine ⟨h.setT G.size (fun b hb hn=>G.block b hb (fun e=>hn (by show v.t.val.ownBlock=some b;rw [ho,e]))) v.t _ ?_ (fun b e => .inl e),?_⟩
 ·have:=O.put qaw hk x
  rw [List.length_set] at this
  rw [hv]
  exact this
 ·exact (TurnsB.grown G).mono fun q hq=>by show v.t.val.ownBlock=some q;rw [ho];exact hq
end Go.Proofs.YthpdlbcdbncnhaaGreatDoor
namespace Go.Proofs.YthpdlbcdbncnhaaGreatDoor
set_option maxRecDepth 100000
open Go.RowKit
abbrev zc:Array Value:=#[.int .i64 0,.int .i64 0,.slice none 0 0,.slice none 0 0,.slice none 0 0,.slice none 0 0,.int .i64 0,.int .i64 0,.slice none 0 0]
structure Goes (w:World) (lo:Nat) (v:Sv) (vs:List Lv) (w':World) (v':Sv) (vs':List Lv) (s':Sy):Prop where
 own:OwnS w' lo v' vs' s'
 turn:TurnsB (fun b=>∃ i,qah v vs i b) w w'
 old:∀ i b,qah v' vs' i b->(∃ j,qah v vs j b)∨w.heap.size <= b
theorem Goes.refl {w:World} {lo:Nat} {v:Sv} {vs:List Lv} {s:Sy} (h:OwnS w lo v vs s):Goes w lo v vs w v vs s:=⟨h,TurnsB.refl _ _,fun i _ hb => .inl ⟨i,hb⟩⟩
theorem Goes.trans {w w' w'':World} {lo:Nat} {v v' v'':Sv} {vs vs' vs'':List Lv} {s' s'':Sy} (h:Goes w lo v vs w' v' vs' s') (k:Goes w' lo v' vs' w'' v'' vs'' s''):Goes w lo v vs w'' v'' vs'' s'':=by
 refine ⟨k.own,⟨k.turn.os.trans h.turn.os,k.turn.tape.trans h.turn.tape,k.turn.output.trans h.turn.output,Nat.le_trans h.turn.size k.turn.size,fun b hb hn => ?_⟩,fun i b hb => ?_⟩
 ·refine (k.turn.block b (Nat.lt_of_lt_of_le hb h.turn.size) ?_).trans (h.turn.block b hb hn)
  rintro ⟨i,hi⟩
  rcases h.old i b hi with h1 | h1
  ·exact hn h1
  ·omega
 ·rcases k.old i b hb with ⟨j,hj⟩ | h1
  ·exact h.old j b hj
  ·exact .inr (Nat.le_trans h.turn.size h1)
theorem Goes.fresh {w w':World} {lo:Nat} {v v':Sv} {vs vs':List Lv} {s':Sy} (h:OwnS w' w.heap.size v' vs' s') (k:Keeps w w') (hl:lo <= w.heap.size):Goes w lo v vs w' v' vs' s' :=
 ⟨h.base hl,⟨k.os,k.tape,k.output,k.size,fun b hb _=>Below.block k b hb⟩,fun _ _ hb => .inr (h.blkLt hb).1⟩
theorem Goes.behind {w w' w'':World} {lo:Nat} {v v':Sv} {vs vs':List Lv} {s':Sy} (h:Goes w lo v vs w' v' vs' s') (k:Keeps w' w''):Goes w lo v vs w'' v' vs' s' :=
 ⟨h.own.keeps k,⟨k.os.trans h.turn.os,k.tape.trans h.turn.tape,k.output.trans h.turn.output,Nat.le_trans h.turn.size k.size,fun b hb hn=>(Below.block k b (Nat.lt_of_lt_of_le hb h.turn.size)).trans (h.turn.block b hb hn)⟩,h.old⟩
theorem Goes.keeps {w0 w w':World} {lo:Nat} {v v':Sv} {vs vs':List Lv} {s s':Sy} (h:Goes w lo v vs w' v' vs' s') (h0:OwnS w lo v vs s) (k:Keeps w0 w) (hl:w0.heap.size <= lo):Keeps w0 w' :=
 h.turn.keeps k fun _ ⟨_,hi⟩=>Nat.le_trans hl (h0.blkLt hi).1
theorem Goes.blk {w w':World} {lo:Nat} {v v':Sv} {vs vs':List Lv} {s':Sy} (h:Goes w lo v vs w' v' vs' s') {b:Nat} {C:Array Value} (hb:Blk w b C) (hn:∀ i,¬ qah v vs i b):Blk w' b C:=by
 have e:=h.turn.block b hb.lt (fun ⟨i,hi⟩=>hn i hi)
 exact ⟨Nat.lt_of_lt_of_le hb.lt h.turn.size,fun k=>(World.cell?_of_block (w:=w) e).trans (hb.cells k),fun k=>(World.frozen?_of_block (w:=w) e).trans (hb.frozens k)⟩
theorem Goes.far {w w':World} {lo:Nat} {v v':Sv} {vs vs':List Lv} {s':Sy} (h:Goes w lo v vs w' v' vs' s') {b:Nat} (hb:b < w.heap.size) (hn:∀ i,¬ qah v vs i b):∀ i,¬ qah v' vs' i b:=by
 intro i hi
 rcases h.old i b hi with ⟨j,hj⟩ | h1
 ·exact hn j hj
 ·omega
structure VarS (w:World) (lo ob:Nat) (v:Sv) (vs:List Lv) (s:Sy):Prop where
 box:Blk w ob (syc s v)
 own:OwnS w lo v vs s
 lob:lo <= ob
 far:∀ i,¬ qah v vs i ob
theorem VarS.keeps {w w':World} {lo ob:Nat} {v:Sv} {vs:List Lv} {s:Sy} (h:VarS w lo ob v vs s) (k:Keeps w w'):VarS w' lo ob v vs s:=⟨h.box.keeps k,h.own.keeps k,h.lob,h.far⟩
theorem VarS.new {w:World} {lo:Nat} {v:Sv} {vs:List Lv} {s:Sy} (h:OwnS w lo v vs s) (hl:lo <= w.heap.size):VarS (w.alloc (.cells (syc s v) 37)) lo w.heap.size v vs s :=
 ⟨Blk.new _ _ _,h.keeps ((Keeps.refl _).alloc _),hl,fun i hi=>by have:=(h.blkLt hi).2;omega⟩
theorem VarS.put {w w':World} {lo ob:Nat} {v v':Sv} {vs vs':List Lv} {s s':Sy} (h:VarS w lo ob v vs s) (g:Goes w lo v vs w' v' vs' s'):VarS (putC w' ob 0 (syc s' v').toList) lo ob v' vs' s':=by
 have hf:=g.far h.box.lt h.far
 exact ⟨(g.blk h.box h.far).putC (syc s' v').toList rfl,OwnS.farC hf _ _ g.own,h.lob,hf⟩
theorem VarS.task {w:World} {lo ob:Nat} {v:Sv} {vs:List Lv} {s:Sy} (h:VarS w lo ob v vs s) {rb:Nat} (ha:v.t.a=some ⟨rb,0,none⟩) {k:Nat} (hk:k < s.tasks.length) (x:Tsk):VarS (putC w rb (k*14) (tc x).toList) lo ob v vs { s with tasks:=s.tasks.set k x }:=by
 have ho:qah v vs 0 rb:=by show v.t.val.ownBlock=some rb;rw [Rw.val,ha];rfl
 have hne:rb≠ob:=fun e=>h.far 0 (by rw [<- e];exact ho)
 exact ⟨Blk.farC hne _ _ h.box,(h.own.storeT ha hk x).1,h.lob,h.far⟩
theorem VarS.taskKeeps {w0 w:World} {lo ob:Nat} {v:Sv} {vs:List Lv} {s:Sy} (h:VarS w lo ob v vs s) {rb:Nat} (ha:v.t.a=some ⟨rb,0,none⟩) (k:Nat) (L:List Value) (k0:Keeps w0 w) (hl:w0.heap.size <= lo):Keeps w0 (putC w rb k L):=by
 have ho:qah v vs 0 rb:=by show v.t.val.ownBlock=some rb;rw [Rw.val,ha];rfl
 exact Keeps.putC (b:=rb) (Nat.le_trans hl (h.own.blkLt ho).1) L k k0
theorem VarS.elsewhere {w:World} {lo ob:Nat} {v:Sv} {vs:List Lv} {s:Sy} (h:VarS w lo ob v vs s) {c:Nat} (hc:∀ i,¬ qah v vs i c) (hne:c≠ob) (L:List Value) (k:Nat):VarS (putC w c k L) lo ob v vs s :=
 ⟨Blk.farC hne L k h.box,OwnS.farC hc L k h.own,h.lob,h.far⟩
theorem OwnS.tasksAt {w:World} {lo:Nat} {v:Sv} {vs:List Lv} {s:Sy} (h:OwnS w lo v vs s) {k:Nat} (hk:k < s.tasks.length):∃ rb,v.t.a=some ⟨rb,0,none⟩:=by
 obtain ⟨b,cap,e⟩:=h.t.blk (by omega)
 simp only [Rw.val,Value.slice.injEq] at e
 exact ⟨b,e.1⟩
theorem OwnS.taskCells {w:World} {lo:Nat} {v:Sv} {vs:List Lv} {s:Sy} (h:OwnS w lo v vs s) {rb:Nat} (ha:v.t.a=some ⟨rb,0,none⟩) {k:Nat} {t:Tsk} (ht:s.tasks[k]?=some t):(∀ j,j < 14->w.cell? ⟨rb,k*14+j,none⟩=(tc t)[j]?) /\ ∀ j,w.frozen? ⟨rb,j,none⟩=false:=by
 have hn:=(h.t.row qaw).1
 have hv:v.t.val = .slice (some ⟨rb,0,none⟩) s.tasks.length v.t.cap:=by rw [Rw.val,ha,hn]
 have O:=h.t
 rw [hv] at O
 exact ⟨fun j hj=>O.cellAt qaw ht hj,fun j=>O.frozenAt j⟩
structure SysR (s:Sy):Prop where
 now:0 <= s.now /\ s.now <= 100000
 cpus:1 <= s.cpus /\ s.cpus <= 4
 tasks:qao s.tasks=true
 locks:qbo s=true
 ghosts:qb4 s=true
 floors:(s.floors.length:Int)=s.cpus
 seq:0 <= s.seq /\ s.seq <= 1000000
 missed:0 <= s.missed /\ s.missed <= 100000
 trace:s.trace.length <= 400
 on:∀ t∈s.tasks,t.cpu < s.cpus
 cpu:∀ c:Nat,(c:Int) < s.cpus->cpuB s c=true
theorem qbh {s:Sy}:sysB s=true↔SysR s:=by
 unfold sysB qco
 simp only [Bool.and_eq_true,qap,List.all_eq_true,decide_eq_true_eq,beq_iff_eq,List.mem_range]
 constructor
 ·rintro ⟨⟨h1,h2,h3,h4,h5,h6,h7,h8,h9⟩,h10,h11⟩
  exact ⟨h1,h2,h3,h4,h5,h6,h7,h8,h9,h10,fun c hc=>h11 c (by omega)⟩
 ·intro h
  exact ⟨⟨h.now,h.cpus,h.tasks,h.locks,h.ghosts,h.floors,h.seq,h.missed,h.trace⟩,h.on,fun c hc=>h.cpu c (by omega)⟩
theorem qiN {t:Tsk} (h:qae t=true):0 <= t.cpu /\ t.cpu <= 3:=by
 unfold qae at h
 simp only [Bool.and_eq_true,qap] at h
 exact h.1.1.1.2
theorem SysR.onCpus {s:Sy} (h:SysR s):qek s:=by
 intro t ht
 obtain ⟨i,hi⟩:=List.mem_iff_getElem?.1 ht
 have:=qiN (qct h.tasks hi)
 have:=h.on t ht
 have:=h.floors
 omega
theorem SysR.few {s:Sy} (h:SysR s):s.tasks.length <= 12 /\ qak s.locks <= 1005 /\ s.ghosts.length <= 12 /\ s.floors.length <= 4:=by
 have h1:=qfm h.tasks
 have h2:=h.locks
 unfold qbo at h2
 simp only [Bool.and_eq_true,beq_iff_eq] at h2
 have h3:=(qec.1 h2.2.1).few
 have h4:=h.ghosts
 unfold qb4 at h4
 simp only [Bool.and_eq_true,decide_eq_true_eq] at h4
 have h5:=h.floors
 have h6:=h.cpus
 refine ⟨h1,?_,h4.2,by omega⟩
 unfold qak
 omega
theorem SysR.small {s:Sy} (h:SysR s):qaj s <= 1500:=by
 obtain ⟨h1,h2,h3,h4⟩:=h.few
 have:=h.trace
 unfold qaj
 omega
end Go.Proofs.YthpdlbcdbncnhaaGreatDoor
namespace Go.Proofs.YthpdlbcdbncnhaaGreatDoor
set_option maxRecDepth 100000
open Go.RowKit
attribute [local go_sem] Keeps.refl Keeps.alloc Keeps.drew Keeps.drewN
theorem OwnS.nothing (w:World) (lo:Nat):OwnS w lo Sv.zero [] Sy.zero:=by
 refine ⟨World.ownsRow_nil _ _ _ _,Mine.none _ _ _ _ (World.ownsRow_nil _ _ _ _) (fun b e=>by simp [Value.ownBlock] at e),World.ownsRow_nil _ _ _ _,World.ownsRow_nil _ _ _ _,World.ownsRow_nil _ _ _ _,?_⟩
 intro i j b hi hj
 match i,hi with
 | 0,hi=>simp [qah,Value.ownBlock] at hi
 | 1,hi=>simp [qah,Value.ownBlock] at hi
 | 2,hi=>simp [qah,Value.ownBlock] at hi
 | 3,hi=>simp [qah,Value.ownBlock] at hi
 | 4,hi=>simp [qah,Value.ownBlock] at hi
abbrev newV (c b1 b3:Nat):Sv:=⟨⟨none,0,0⟩,⟨some ⟨b1,0,none⟩,5,5⟩,⟨none,0,0⟩,⟨some ⟨b3,0,none⟩,c,c⟩,⟨none,0,0⟩⟩
theorem qgp {c:Nat} (h:inB (c:Int) 1 4=true):newS c={ Sy.zero with cpus:=(c:Int),locks:=List.replicate 5 ⟨0,[]⟩,floors:=List.replicate c 0 }:=by
 unfold newS
 rw [h,if_pos rfl,Int.toNat_natCast]
theorem qiO {W:World} {lo c b1 b3:Nat} (h:inB (c:Int) 1 4=true) (L:Mine W lo W.heap.size (.slice (some ⟨b1,0,none⟩) 5 5) (List.replicate 5 Lv.zero) (List.replicate 5 ⟨0,[]⟩)) (F:OwnN W lo (.slice (some ⟨b3,0,none⟩) c c) (List.replicate c 0)) (hne:b1≠b3) :
  OwnS W lo (newV c b1 b3) (List.replicate 5 Lv.zero) (newS c):=by
 rw [qgp h]
 refine ⟨World.ownsRow_nil _ _ _ _,L,World.ownsRow_nil _ _ _ _,F,World.ownsRow_nil _ _ _ _,?_⟩
 have key:∀ i b,qah (newV c b1 b3) (List.replicate 5 Lv.zero) i b->(i=1 /\ b=b1)∨(i=3 /\ b=b3):=by
  intro i b hi
  match i,hi with
  | 0,hi=>simp [qah,Value.ownBlock] at hi
  | 1,hi =>
   rcases hi with hi | ⟨x,hx,hi⟩
   ·simp [Value.ownBlock] at hi;exact .inl ⟨rfl,hi.symm⟩
   ·have:=List.eq_of_mem_replicate hx
    subst this
    simp [Value.ownBlock] at hi
  | 2,hi=>simp [qah,Value.ownBlock] at hi
  | 3,hi=>simp [qah,Value.ownBlock] at hi;exact .inr ⟨rfl,hi.symm⟩
  | 4,hi=>simp [qah,Value.ownBlock] at hi
 intro i j b hi hj
 have:=key i b hi
 have:=key j b hj
 omega
theorem qiP (c:Nat):madeCells #[.int .i64 0] c=madeCells (ic 0) (c*1):=by rw [Nat.mul_one]
set_option maxHeartbeats 4000000 in
theorem qnW (cpus:Int) (w:World) :
  Calls Tryz.prog 143 #[.int .i64 cpus] w fun e w'=>∃ v vs,e = .returned (.tuple #[.agg (syc (newS cpus) v),.bool (inB cpus 1 4)]) /\ OwnS w' w.heap.size v vs (newS cpus) /\ Keeps w w':=by
 cases hc:inB cpus 1 4
 ·have Hn:Hid (newS cpus=Sy.zero):=by show _=_;unfold newS;rw [hc];rfl
  go_enter Tryz.func143,Tryz.ntmps143
  go_wp2_with (go_at_call 64;refine (qaf _ _ _ _).mono ?_;rintro e w' ⟨rfl,hw'⟩;have hw2:=hw'.symm;subst hw2;rw [hc])
  exact bodyPost_ret (v := .tuple #[.agg (syc Sy.zero Sv.zero),.bool false]) (by simp [results,Tryz.results143,go_sem,Sy.zero]) rfl ⟨Sv.zero,[],by rw [Hn.out],by rw [Hn.out];exact OwnS.nothing _ _,(Keeps.refl w).alloc _⟩
 ·obtain ⟨c1,c2⟩:=qap.1 hc
  obtain ⟨c,rfl⟩:∃ c:Nat,cpus=(c:Int):=⟨cpus.toNat,by omega⟩
  have hm1:∀ w:World,(Instr.makeSlice 33 (.int .i64 5) (.int .i64 5)).run Tryz.prog w = .ok (.slice (some ⟨w.heap.size,0,none⟩) 5 5) (w.alloc (.cells (madeCells #[.int .i64 0,.slice none 0 0] 10) 104)):=by
   have:=qf6 (P:=Tryz.prog) 33 104 (.agg #[.int .i64 0,.slice none 0 0]) 2 32 Tryz.underlying33 (by kernel_rfl) 5 (by decide) (by decide)
   simpa [Value.cells] using this
  have hm2:∀ w:World,(Instr.makeSlice 25 (.int .i64 (c:Int)) (.int .i64 (c:Int))).run Tryz.prog w = .ok (.slice (some ⟨w.heap.size,0,none⟩) c c) (w.alloc (.cells (madeCells #[.int .i64 0] c) 3)):=by
   have:=qf6 (P:=Tryz.prog) 25 3 (.int .i64 0) 1 8 Tryz.underlying25 (by kernel_rfl) c (by omega) (by omega)
   simpa [Value.cells] using this
  go_enter Tryz.func143,Tryz.ntmps143
  go_wp2_with (go_at_call 64;refine (qaf _ _ _ _).mono ?_;rintro e w' ⟨rfl,hw'⟩;have hw2:=hw'.symm;subst hw2;rw [hc])
  go_region
  ·have L:Mine ((((w.alloc (.cells #[.int .i64 0,.int .i64 (c:Int),.slice none 0 0,.slice (some ⟨w.heap.size+1,0,none⟩) 5 5,.slice none 0 0,.slice (some ⟨w.heap.size+1+1,0,none⟩) c c,.int .i64 0,.int .i64 0,.slice none 0 0] 37)).alloc (.cells (madeCells #[.int .i64 0,.slice none 0 0] 10) 104)).alloc (.cells (madeCells #[.int .i64 0] c) 3)).drew) w.heap.size ((((w.alloc (.cells #[.int .i64 0,.int .i64 (c:Int),.slice none 0 0,.slice (some ⟨w.heap.size+1,0,none⟩) 5 5,.slice none 0 0,.slice (some ⟨w.heap.size+1+1,0,none⟩) c c,.int .i64 0,.int .i64 0,.slice none 0 0] 37)).alloc (.cells (madeCells #[.int .i64 0,.slice none 0 0] 10) 104)).alloc (.cells (madeCells #[.int .i64 0] c) 3)).drew).heap.size (.slice (some ⟨w.heap.size+1,0,none⟩) 5 5) (List.replicate 5 Lv.zero) (List.replicate 5 ⟨0,[]⟩):=by
    have m:=Mine.zero (w.alloc (.cells #[.int .i64 0,.int .i64 (c:Int),.slice none 0 0,.slice (some ⟨w.heap.size+1,0,none⟩) 5 5,.slice none 0 0,.slice (some ⟨w.heap.size+1+1,0,none⟩) c c,.int .i64 0,.int .i64 0,.slice none 0 0] 37)) 5 (by decide)
    simp only [World.size_alloc] at m
    exact (m.keeps ((Keeps.refl _).alloc _).drew).widen (by omega) (by simp)
   have F:OwnN ((((w.alloc (.cells #[.int .i64 0,.int .i64 (c:Int),.slice none 0 0,.slice (some ⟨w.heap.size+1,0,none⟩) 5 5,.slice none 0 0,.slice (some ⟨w.heap.size+1+1,0,none⟩) c c,.int .i64 0,.int .i64 0,.slice none 0 0] 37)).alloc (.cells (madeCells #[.int .i64 0,.slice none 0 0] 10) 104)).alloc (.cells (madeCells #[.int .i64 0] c) 3)).drew) w.heap.size (.slice (some ⟨w.heap.size+1+1,0,none⟩) c c) (List.replicate c 0):=by
    have f:=Own.zeros (e:=3) qaZ (by decide) (0:Int) ((w.alloc (.cells #[.int .i64 0,.int .i64 (c:Int),.slice none 0 0,.slice (some ⟨w.heap.size+1,0,none⟩) 5 5,.slice none 0 0,.slice (some ⟨w.heap.size+1+1,0,none⟩) c c,.int .i64 0,.int .i64 0,.slice none 0 0] 37)).alloc (.cells (madeCells #[.int .i64 0,.slice none 0 0] 10) 104)) c (by unfold maxLen;omega)
    rw [<- qiP] at f
    simp only [World.size_alloc] at f
    exact (f.keeps (Keeps.refl _).drew).base (by omega)
   have D:Blk ((((w.alloc (.cells #[.int .i64 0,.int .i64 (c:Int),.slice none 0 0,.slice (some ⟨w.heap.size+1,0,none⟩) 5 5,.slice none 0 0,.slice (some ⟨w.heap.size+1+1,0,none⟩) c c,.int .i64 0,.int .i64 0,.slice none 0 0] 37)).alloc (.cells (madeCells #[.int .i64 0,.slice none 0 0] 10) 104)).alloc (.cells (madeCells #[.int .i64 0] c) 3)).drew) w.heap.size #[.int .i64 0,.int .i64 (c:Int),.slice none 0 0,.slice (some ⟨w.heap.size+1,0,none⟩) 5 5,.slice none 0 0,.slice (some ⟨w.heap.size+1+1,0,none⟩) c c,.int .i64 0,.int .i64 0,.slice none 0 0]:=(((Blk.new _ _ _).alloc _).alloc _).keeps (Keeps.refl _).drew
   have K:Keeps w ((((w.alloc (.cells #[.int .i64 0,.int .i64 (c:Int),.slice none 0 0,.slice (some ⟨w.heap.size+1,0,none⟩) 5 5,.slice none 0 0,.slice (some ⟨w.heap.size+1+1,0,none⟩) c c,.int .i64 0,.int .i64 0,.slice none 0 0] 37)).alloc (.cells (madeCells #[.int .i64 0,.slice none 0 0] 10) 104)).alloc (.cells (madeCells #[.int .i64 0] c) 3)).drew):=((((Keeps.refl w).alloc _).alloc _).alloc _).drew
   have S0:=qiO hc L F (by omega)
   have e0:Hid (newS c={ Sy.zero with cpus:=(c:Int),locks:=List.replicate 5 ⟨0,[]⟩,floors:=List.replicate c 0 }):=qgp hc
   generalize (((w.alloc (.cells #[.int .i64 0,.int .i64 (c:Int),.slice none 0 0,.slice (some ⟨w.heap.size+1,0,none⟩) 5 5,.slice none 0 0,.slice (some ⟨w.heap.size+1+1,0,none⟩) c c,.int .i64 0,.int .i64 0,.slice none 0 0] 37)).alloc (.cells (madeCells #[.int .i64 0,.slice none 0 0] 10) 104)).alloc (.cells (madeCells #[.int .i64 0] c) 3)).drew=Z at *
   go_wp2
   exact bodyPost_ret (v := .tuple #[.agg (syc (newS c) (newV c (w.heap.size+1) (w.heap.size+1+1))),.bool true]) (by rw [e0.out];simp [results,Tryz.results143,go_sem,D.cells,Sy.zero]) rfl ⟨_,rfl,⟨_,S0⟩,K⟩
  ·have L:Mine ((((w.alloc (.cells #[.int .i64 0,.int .i64 (c:Int),.slice none 0 0,.slice (some ⟨w.heap.size+1+1,0,none⟩) 5 5,.slice none 0 0,.slice (some ⟨w.heap.size+1,0,none⟩) c c,.int .i64 0,.int .i64 0,.slice none 0 0] 37)).alloc (.cells (madeCells #[.int .i64 0] c) 3)).alloc (.cells (madeCells #[.int .i64 0,.slice none 0 0] 10) 104)).drew) w.heap.size ((((w.alloc (.cells #[.int .i64 0,.int .i64 (c:Int),.slice none 0 0,.slice (some ⟨w.heap.size+1+1,0,none⟩) 5 5,.slice none 0 0,.slice (some ⟨w.heap.size+1,0,none⟩) c c,.int .i64 0,.int .i64 0,.slice none 0 0] 37)).alloc (.cells (madeCells #[.int .i64 0] c) 3)).alloc (.cells (madeCells #[.int .i64 0,.slice none 0 0] 10) 104)).drew).heap.size (.slice (some ⟨w.heap.size+1+1,0,none⟩) 5 5) (List.replicate 5 Lv.zero) (List.replicate 5 ⟨0,[]⟩):=by
    have m:=Mine.zero ((w.alloc (.cells #[.int .i64 0,.int .i64 (c:Int),.slice none 0 0,.slice (some ⟨w.heap.size+1+1,0,none⟩) 5 5,.slice none 0 0,.slice (some ⟨w.heap.size+1,0,none⟩) c c,.int .i64 0,.int .i64 0,.slice none 0 0] 37)).alloc (.cells (madeCells #[.int .i64 0] c) 3)) 5 (by decide)
    simp only [World.size_alloc] at m
    exact (m.keeps (Keeps.refl _).drew).widen (by omega) (by simp)
   have F:OwnN ((((w.alloc (.cells #[.int .i64 0,.int .i64 (c:Int),.slice none 0 0,.slice (some ⟨w.heap.size+1+1,0,none⟩) 5 5,.slice none 0 0,.slice (some ⟨w.heap.size+1,0,none⟩) c c,.int .i64 0,.int .i64 0,.slice none 0 0] 37)).alloc (.cells (madeCells #[.int .i64 0] c) 3)).alloc (.cells (madeCells #[.int .i64 0,.slice none 0 0] 10) 104)).drew) w.heap.size (.slice (some ⟨w.heap.size+1,0,none⟩) c c) (List.replicate c 0):=by
    have f:=Own.zeros (e:=3) qaZ (by decide) (0:Int) (w.alloc (.cells #[.int .i64 0,.int .i64 (c:Int),.slice none 0 0,.slice (some ⟨w.heap.size+1+1,0,none⟩) 5 5,.slice none 0 0,.slice (some ⟨w.heap.size+1,0,none⟩) c c,.int .i64 0,.int .i64 0,.slice none 0 0] 37)) c (by unfold maxLen;omega)
    rw [<- qiP] at f
    simp only [World.size_alloc] at f
    exact (f.keeps ((Keeps.refl _).alloc _).drew).base (by omega)
   have D:Blk ((((w.alloc (.cells #[.int .i64 0,.int .i64 (c:Int),.slice none 0 0,.slice (some ⟨w.heap.size+1+1,0,none⟩) 5 5,.slice none 0 0,.slice (some ⟨w.heap.size+1,0,none⟩) c c,.int .i64 0,.int .i64 0,.slice none 0 0] 37)).alloc (.cells (madeCells #[.int .i64 0] c) 3)).alloc (.cells (madeCells #[.int .i64 0,.slice none 0 0] 10) 104)).drew) w.heap.size #[.int .i64 0,.int .i64 (c:Int),.slice none 0 0,.slice (some ⟨w.heap.size+1+1,0,none⟩) 5 5,.slice none 0 0,.slice (some ⟨w.heap.size+1,0,none⟩) c c,.int .i64 0,.int .i64 0,.slice none 0 0]:=(((Blk.new _ _ _).alloc _).alloc _).keeps (Keeps.refl _).drew
   have K:Keeps w ((((w.alloc (.cells #[.int .i64 0,.int .i64 (c:Int),.slice none 0 0,.slice (some ⟨w.heap.size+1+1,0,none⟩) 5 5,.slice none 0 0,.slice (some ⟨w.heap.size+1,0,none⟩) c c,.int .i64 0,.int .i64 0,.slice none 0 0] 37)).alloc (.cells (madeCells #[.int .i64 0] c) 3)).alloc (.cells (madeCells #[.int .i64 0,.slice none 0 0] 10) 104)).drew):=((((Keeps.refl w).alloc _).alloc _).alloc _).drew
   have S0:=qiO hc L F (by omega)
   have e0:Hid (newS c={ Sy.zero with cpus:=(c:Int),locks:=List.replicate 5 ⟨0,[]⟩,floors:=List.replicate c 0 }):=qgp hc
   generalize (((w.alloc (.cells #[.int .i64 0,.int .i64 (c:Int),.slice none 0 0,.slice (some ⟨w.heap.size+1+1,0,none⟩) 5 5,.slice none 0 0,.slice (some ⟨w.heap.size+1,0,none⟩) c c,.int .i64 0,.int .i64 0,.slice none 0 0] 37)).alloc (.cells (madeCells #[.int .i64 0] c) 3)).alloc (.cells (madeCells #[.int .i64 0,.slice none 0 0] 10) 104)).drew=Z at *
   go_wp2
   exact bodyPost_ret (v := .tuple #[.agg (syc (newS c) (newV c (w.heap.size+1+1) (w.heap.size+1))),.bool true]) (by rw [e0.out];simp [results,Tryz.results143,go_sem,D.cells,Sy.zero]) rfl ⟨_,rfl,⟨_,S0⟩,K⟩
end Go.Proofs.YthpdlbcdbncnhaaGreatDoor
