/-
  A system of one's own: one row of it is another one now, th
-/
import Derived.Test.YthpdlbcdbncnhaaGreatDoorGSys1
import Derived.Test.YthpdlbcdbncnhaaGreatDoorGLock3
import Derived.Test.YthpdlbcdbncnhaaGreatDoorGDraw2
import Derived.Test.YthpdlbcdbncnhaaGreatDoorGSum1
import Derived.Test.YthpdlbcdbncnhaaGreatDoorGPure2
namespace Go.Proofs.YthpdlbcdbncnhaaGreatDoor
set_option maxRecDepth 100000
open Go.RowKit
def qef (v:Value) (vs:List Lv) (b:Nat):Prop:=v.ownBlock=some b∨∃ x∈vs,x.row.ownBlock=some b
theorem Mine.sameB {w w':World} {lo hi:Nat} {v:Value} {vs:List Lv} {ls:List Lk} (h:Mine w lo hi v vs ls) (k:∀ b,qef v vs b->w'.heap[b]?=w.heap[b]?):Mine w' lo hi v vs ls :=
 ⟨h.len,h.own.same fun b e=>k b (.inl e),h.out,fun i x l hx hl=>⟨(h.rows i x l hx hl).1,(h.rows i x l hx hl).2.same fun b e=>k b (.inr ⟨x,List.mem_of_getElem? hx,e⟩)⟩,h.inn,h.apart⟩
theorem Mine.blkLt {w:World} {lo hi:Nat} {v:Value} {vs:List Lv} {ls:List Lk} (h:Mine w lo hi v vs ls) {b:Nat} (hb:qef v vs b):lo <= b /\ b < w.heap.size:=by
 rcases hb with e | ⟨x,hx,e⟩
 ·exact h.own.ltb b e
 ·obtain ⟨i,hi⟩:=List.mem_iff_getElem?.1 hx
  obtain ⟨l,hl⟩:=qai (xs:=ls) (k:=i) (by rw [<- h.len];exact qas hi)
  exact (h.rows i x l hi hl).2.ltb b e
theorem OwnS.blkLt {w:World} {lo:Nat} {v:Sv} {vs:List Lv} {s:Sy} (h:OwnS w lo v vs s) {i b:Nat} (hb:qah v vs i b):lo <= b /\ b < w.heap.size:=by
 match i,hb with
 | 0,hb=>exact h.t.ltb b hb
 | 1,hb=>exact h.l.blkLt hb
 | 2,hb=>exact h.g.ltb b hb
 | 3,hb=>exact h.f.ltb b hb
 | 4,hb=>exact h.r.ltb b hb
theorem OwnS.others {w w':World} {lo:Nat} {v:Sv} {vs:List Lv} {s:Sy} (h:OwnS w lo v vs s) (i:Nat) (k:∀ b,b < w.heap.size->¬ qah v vs i b->w'.heap[b]?=w.heap[b]?) {j b:Nat} (hj:j≠i) (hb:qah v vs j b):w'.heap[b]?=w.heap[b]? :=
 k b (h.blkLt hb).2 fun hi=>hj (h.ap j i b hb hi)
theorem qdR {w:World} {lo:Nat} {v v':Sv} {vs vs':List Lv} {s:Sy} (h:OwnS w lo v vs s) (i:Nat) (hi:∀ b,qah v' vs' i b->qah v vs i b∨w.heap.size <= b) (ho:∀ j b,j≠i->qah v' vs' j b->qah v vs j b) :
  ∀ j k b,qah v' vs' j b->qah v' vs' k b->j=k:=by
 intro j k b hj hk
 by_cases ej:j=i
 ·by_cases ek:k=i
  ·omega
  ·have h2:=ho k b ek hk
   rw [ej] at hj
   rcases hi b hj with h1 | h1
   ·rw [ej];exact h.ap i k b h1 h2
   ·have:=(h.blkLt h2).2;omega
 ·have h1:=ho j b ej hj
  by_cases ek:k=i
  ·rw [ek] at hk
   rcases hi b hk with h2 | h2
   ·rw [ek];exact h.ap j i b h1 h2
   ·have:=(h.blkLt h1).2;omega
  ·exact h.ap j k b h1 (ho k b ek hk)
theorem OwnS.setT {w w':World} {lo:Nat} {v:Sv} {vs:List Lv} {s:Sy} (h:OwnS w lo v vs s) (hz:w.heap.size <= w'.heap.size) (k:∀ b,b < w.heap.size->¬ qah v vs 0 b->w'.heap[b]?=w.heap[b]?) (x:Rw) (xs:List Tsk) (O:Own 47 14 tc w' lo x.val xs) (hx:∀ b,x.val.ownBlock=some b->v.t.val.ownBlock=some b∨w.heap.size <= b) :
  OwnS w' lo { v with t:=x } vs { s with tasks:=xs } :=
 ⟨O,(h.l.sameB fun b e=>h.others 0 k (j:=1) (by decide) e).widen (Nat.le_refl _) hz,h.g.same fun b e=>h.others 0 k (j:=2) (by decide) e,h.f.same fun b e=>h.others 0 k (j:=3) (by decide) e,h.r.same fun b e=>h.others 0 k (j:=4) (by decide) e,qdR h 0 hx (by
   intro j b hj hb
   match j,hb with
   | 0,hb=>exact absurd rfl hj
   | 1,hb=>exact hb
   | 2,hb=>exact hb
   | 3,hb=>exact hb
   | 4,hb=>exact hb)⟩
theorem OwnS.setG {w w':World} {lo:Nat} {v:Sv} {vs:List Lv} {s:Sy} (h:OwnS w lo v vs s) (hz:w.heap.size <= w'.heap.size) (k:∀ b,b < w.heap.size->¬ qah v vs 2 b->w'.heap[b]?=w.heap[b]?) (x:Rw) (xs:List Gh) (O:Own 107 4 ghc w' lo x.val xs) (hx:∀ b,x.val.ownBlock=some b->v.g.val.ownBlock=some b∨w.heap.size <= b) :
  OwnS w' lo { v with g:=x } vs { s with ghosts:=xs } :=
 ⟨h.t.same fun b e=>h.others 2 k (j:=0) (by decide) e,(h.l.sameB fun b e=>h.others 2 k (j:=1) (by decide) e).widen (Nat.le_refl _) hz,O,h.f.same fun b e=>h.others 2 k (j:=3) (by decide) e,h.r.same fun b e=>h.others 2 k (j:=4) (by decide) e,qdR h 2 hx (by
   intro j b hj hb
   match j,hb with
   | 0,hb=>exact hb
   | 1,hb=>exact hb
   | 2,hb=>exact absurd rfl hj
   | 3,hb=>exact hb
   | 4,hb=>exact hb)⟩
theorem OwnS.setF {w w':World} {lo:Nat} {v:Sv} {vs:List Lv} {s:Sy} (h:OwnS w lo v vs s) (hz:w.heap.size <= w'.heap.size) (k:∀ b,b < w.heap.size->¬ qah v vs 3 b->w'.heap[b]?=w.heap[b]?) (x:Rw) (xs:List Int) (O:OwnN w' lo x.val xs) (hx:∀ b,x.val.ownBlock=some b->v.f.val.ownBlock=some b∨w.heap.size <= b) :
  OwnS w' lo { v with f:=x } vs { s with floors:=xs } :=
 ⟨h.t.same fun b e=>h.others 3 k (j:=0) (by decide) e,(h.l.sameB fun b e=>h.others 3 k (j:=1) (by decide) e).widen (Nat.le_refl _) hz,h.g.same fun b e=>h.others 3 k (j:=2) (by decide) e,O,h.r.same fun b e=>h.others 3 k (j:=4) (by decide) e,qdR h 3 hx (by
   intro j b hj hb
   match j,hb with
   | 0,hb=>exact hb
   | 1,hb=>exact hb
   | 2,hb=>exact hb
   | 3,hb=>exact absurd rfl hj
   | 4,hb=>exact hb)⟩
theorem OwnS.setR {w w':World} {lo:Nat} {v:Sv} {vs:List Lv} {s:Sy} (h:OwnS w lo v vs s) (hz:w.heap.size <= w'.heap.size) (k:∀ b,b < w.heap.size->¬ qah v vs 4 b->w'.heap[b]?=w.heap[b]?) (x:Rw) (xs:List Tn) (O:Own 85 3 tnc w' lo x.val xs) (hx:∀ b,x.val.ownBlock=some b->v.r.val.ownBlock=some b∨w.heap.size <= b) :
  OwnS w' lo { v with r:=x } vs { s with trace:=xs } :=
 ⟨h.t.same fun b e=>h.others 4 k (j:=0) (by decide) e,(h.l.sameB fun b e=>h.others 4 k (j:=1) (by decide) e).widen (Nat.le_refl _) hz,h.g.same fun b e=>h.others 4 k (j:=2) (by decide) e,h.f.same fun b e=>h.others 4 k (j:=3) (by decide) e,O,qdR h 4 hx (by
   intro j b hj hb
   match j,hb with
   | 0,hb=>exact hb
   | 1,hb=>exact hb
   | 2,hb=>exact hb
   | 3,hb=>exact hb
   | 4,hb=>exact absurd rfl hj)⟩
theorem OwnS.setL {w w':World} {lo:Nat} {v:Sv} {vs vs':List Lv} {s:Sy} (h:OwnS w lo v vs s) (k:∀ b,b < w.heap.size->¬ qah v vs 1 b->w'.heap[b]?=w.heap[b]?) (x:Rw) (ls:List Lk) (L:Mine w' lo w'.heap.size x.val vs' ls) (hx:∀ b,qef x.val vs' b->qef v.l.val vs b∨w.heap.size <= b) :
  OwnS w' lo { v with l:=x } vs' { s with locks:=ls } :=
 ⟨h.t.same fun b e=>h.others 1 k (j:=0) (by decide) e,L,h.g.same fun b e=>h.others 1 k (j:=2) (by decide) e,h.f.same fun b e=>h.others 1 k (j:=3) (by decide) e,h.r.same fun b e=>h.others 1 k (j:=4) (by decide) e,qdR h 1 hx (by
   intro j b hj hb
   match j,hb with
   | 0,hb=>exact hb
   | 1,hb=>exact absurd rfl hj
   | 2,hb=>exact hb
   | 3,hb=>exact hb
   | 4,hb=>exact hb)⟩
theorem OwnS.nums {w:World} {lo:Nat} {v:Sv} {vs:List Lv} {s:Sy} (h:OwnS w lo v vs s) (now cpus seq missed:Int):OwnS w lo v vs { s with now:=now,cpus:=cpus,seq:=seq,missed:=missed }:=⟨h.t,h.l,h.g,h.f,h.r,h.ap⟩
end Go.Proofs.YthpdlbcdbncnhaaGreatDoor
namespace Go.Proofs.YthpdlbcdbncnhaaGreatDoor
set_option maxRecDepth 100000
open Go.RowKit
attribute [local go_sem] Keeps.refl Keeps.alloc Keeps.drew Keeps.drewN
abbrev Sv.zero:Sv:=⟨⟨none,0,0⟩,⟨none,0,0⟩,⟨none,0,0⟩,⟨none,0,0⟩,⟨none,0,0⟩⟩
theorem Own.fresh {α:Type} (e:TypeId) (sz:Nat) (c:α->Array Value) {w W:World} {n:Nat} (h:W.heap.size=n) (hw:w=W.alloc (.cells #[] e)):Own e sz c w n (.slice (Option.some ⟨n,0,none⟩) 0 0) []:=by
 subst hw h
 exact Own.new e sz c W (Nat.le_refl _)
theorem Own.form {α:Type} {e:TypeId} {sz:Nat} {c:α->Array Value} {w:World} {base:Nat} {v:Value} {xs:List α} (h:Own e sz c w base v xs) (hc:∀ x,(c x).size=sz):∃ a cap,v = .slice a xs.length cap:=by
 obtain ⟨a,cap,e,-,-,-⟩:=h.slice hc
 exact ⟨a,cap,e⟩
theorem Blk.aside {g:Nat} {w w':World} {b:Nat} {C:Array Value} (h:Blk w b C) (k:KeepsBut g w w') (hg:b≠g):Blk w' b C :=
 ⟨Nat.lt_of_lt_of_le h.lt k.size,fun i=>(k.cells b i h.lt hg).trans (h.cells i),fun i=>(World.frozen?_of_block (w:=w) (k.block b h.lt hg)).trans (h.frozens i)⟩
theorem KeepsBut.putOwn {g:Nat} {a:World}:∀ (L:List Value) (w:World) (k:Nat),KeepsBut g a w->KeepsBut g a (Go.Proofs.YthpdlbcdbncnhaaGreatDoor.putC w g k L)
 | [],_,_,h=>h
 | v::r,_,k,h=>KeepsBut.putOwn r _ (k+1) (h.setCell k v)
theorem qeg {X w':World} {e:TypeId} {b k n:Nat} {C:Array Value} (hn:X.heap.size=n) (B:Blk X b C) (hk:k < C.size) (g:(X.alloc (.cells #[] e)).grownBy w' (some n)) (u:Value) :
  Blk w' b C /\ KeepsBut b X (w'.setCell ⟨b,k,none⟩ u) /\ Blk (w'.setCell ⟨b,k,none⟩ u) b (C.setIfInBounds k u):=by
 have hl:=B.lt
 have B1:Blk w' b C:=(B.alloc _).grown g (by intro q hq;cases hq;omega)
 exact ⟨B1,((KeepsBut.of ((Keeps.refl X).alloc _)).grown g (by intro q hq;cases hq;omega)).setCell k u,B1.set k hk u⟩
set_option maxHeartbeats 8000000 in
theorem qeh {w:World} {v:Sv} {s:Sy} (h:SysOn w v s) :
  Calls Tryz.prog 184 #[.agg (syc s v)] w fun e w'=>∃ v' vs,e = .returned (.agg (syc s v')) /\ OwnS w' w.heap.size v' vs s /\ Keeps w w':=by
 have hz:=h.size
 have q1:Hid (s.tasks.length <= 2097152):=by show _ <= _;unfold qaj at hz;omega
 have q2:Hid (s.ghosts.length <= 2097152):=by show _ <= _;unfold qaj at hz;omega
 have q3:Hid (s.floors.length <= 2097152):=by show _ <= _;unfold qaj at hz;omega
 have q4:Hid (s.trace.length <= 2097152):=by show _ <= _;unfold qaj at hz;omega
 clear hz
 obtain ⟨W,HW⟩:∃ W,W=(w.alloc (.cells (syc s v) 37)).alloc (.cells (syc Sy.zero Sv.zero) 37):=⟨_,rfl⟩
 have kW:Keeps w W:=by rw [HW];exact ((Keeps.refl w).alloc _).alloc _
 have hsz:W.heap.size=w.heap.size+2:=by rw [HW];simp
 have B0:Hid (Blk W w.heap.size (syc s v)):=by show Blk _ _ _;rw [HW];exact (Blk.new _ _ _).alloc _
 have R0:Hid (Blk W (w.heap.size+1) (syc Sy.zero Sv.zero)):=by
  show Blk _ _ _
  rw [HW]
  have:=Blk.new (w.alloc (.cells (syc s v) 37)) (syc Sy.zero Sv.zero) 37
  simpa using this
 have hS:Hid (SysOn W v s):=h.keeps kW
 go_enter Tryz.func184,Tryz.ntmps184
 go_wp2_with (at_builtin;(refine qeV rfl _ _ 32 rfl (w.heap.size+2) 47 (tk Tsk.zero) 14 112 tc Tryz.underlying32 (by kernel_rfl) rfl (by decide) qaw qb6 (.slice (some ⟨w.heap.size+2,0,none⟩) 0 0) rfl (Own.fresh (W:=W) 47 14 tc hsz (by rw [HW];rfl)) (by simp) s.tasks v.t (by rw [HW] at hS;exact (hS.out.tc.keeps ((Keeps.refl _).alloc _))) (by rw [HW] at hS;exact (hS.out.lay.t.keeps ((Keeps.refl _).alloc _))) h.lay.tl rfl q1.out (by decide) ?_))
 intro v1 w1 O1 g1 f1
 obtain ⟨a1,c1,rfl⟩:=O1.form qaw
 have g1':(W.alloc (.cells #[] 47)).grownBy w1 (some (w.heap.size+2)):=by rw [HW];exact g1
 obtain ⟨X1,KB1,BY1⟩:=qeg hsz B0.out (k:=2) (by simp) g1' (.slice a1 s.tasks.length c1)
 have F1:Hid (∀ q,(Value.slice a1 s.tasks.length c1).ownBlock=some q->w.heap.size+2 <= q):=fun q hq=>(O1.ltb q hq).1
 have O1Y:Hid (Own 47 14 tc (w1.setCell ⟨w.heap.size,2,none⟩ (.slice a1 s.tasks.length c1)) (w.heap.size+2) (.slice a1 s.tasks.length c1) s.tasks):=O1.butG ((KeepsBut.refl w.heap.size w1).setCell 2 _) (by omega)
 have RY1:Hid (Blk (w1.setCell ⟨w.heap.size,2,none⟩ (.slice a1 s.tasks.length c1)) (w.heap.size+1) (syc Sy.zero Sv.zero)):=R0.out.aside KB1 (by omega)
 have KY1:Keeps w (w1.setCell ⟨w.heap.size,2,none⟩ (.slice a1 s.tasks.length c1)):=KB1.keeps kW (Nat.le_refl _)
 have BH1:Hid (Blk (w1.setCell ⟨w.heap.size,2,none⟩ (.slice a1 s.tasks.length c1)) w.heap.size (syc s { v with t:=⟨a1,s.tasks.length,c1⟩ })):=BY1
 have hz1:Hid (w.heap.size+2 <= (w1.setCell ⟨w.heap.size,2,none⟩ (.slice a1 s.tasks.length c1)).heap.size):=by show _ <= _;have:=KB1.size;omega
 obtain ⟨_,x1,x2⟩:=X1
 clear g1 g1' f1 O1 KB1 BY1 B0 R0 kW hS HW hsz
 go_wp2_with fail
 generalize w1.setCell ⟨w.heap.size,2,none⟩ (.slice a1 s.tasks.length c1)=Y1 at *
 have CP:=qf9 v.l.a v.l.cap s.locks Y1 (by have:=h.size;unfold qaj at this;omega) (h.keeps KY1).lay.l
 rw [h.lay.ll] at CP
 refine CP.mono ?_
 rintro e w2 ⟨lv,vs,rfl,ML,k2⟩
 obtain ⟨a2,c2,rfl,-,-⟩:=ML.lks
 clear CP x1 x2
 obtain ⟨Y2,HY2⟩:∃ Y2,Y2=w2.setCell ⟨w.heap.size,3,none⟩ (.slice a2 s.locks.length c2):=⟨_,rfl⟩
 have X2:=BH1.out.keeps k2
 have KB2:KeepsBut w.heap.size Y1 Y2:=by rw [HY2];exact (KeepsBut.of k2).setCell 3 _
 have BH2:Hid (Blk Y2 w.heap.size (syc s { v with t:=⟨a1,s.tasks.length,c1⟩,l:=⟨a2,s.locks.length,c2⟩ })):=by show Blk _ _ _;rw [HY2];exact X2.set 3 (by simp) _
 have RY2:Hid (Blk Y2 (w.heap.size+1) (syc Sy.zero Sv.zero)):=RY1.out.aside KB2 (by omega)
 have KY2:Keeps w Y2:=KB2.keeps KY1 (Nat.le_refl _)
 have O12:Hid (Own 47 14 tc Y2 (w.heap.size+2) (.slice a1 s.tasks.length c1) s.tasks):=O1Y.out.butG KB2 (by omega)
 have B1:Hid (∀ q,(Value.slice a1 s.tasks.length c1).ownBlock=some q->q < Y1.heap.size):=fun q hq=>(O1Y.out.ltb q hq).2
 have hz2:Y2.heap.size=w2.heap.size:=by rw [HY2];simp
 have hz12:Hid (Y1.heap.size <= w2.heap.size):=k2.size
 have M2:Hid (Mine Y2 Y1.heap.size w2.heap.size (.slice a2 s.locks.length c2) vs s.locks):=by
  show Mine _ _ _ _ _ _
  refine ML.same fun q hq _ hq2 => ?_
  rw [HY2]
  exact qbl (by have:=hz1.out;omega)
 obtain ⟨_,x1,x2⟩:=X2
 clear O1Y RY1 BH1 ML KB2 k2 KY1
 have hS0:=h.keeps KY2
 have pl0:=hS0.gc.keeps ((Keeps.refl Y2).alloc (.cells #[] 107))
 have li0:Lies 4 ghc (Y2.alloc (.cells #[] 107)) v.g.a s.ghosts:=((h.keeps KY2).lay.g).keeps ((Keeps.refl _).alloc _)
 rw [HY2] at pl0 li0
 go_wp2_with (at_builtin;(refine qeV rfl _ _ 34 rfl w2.heap.size 107 (.agg (ghc Gh.zero)) 4 32 ghc Tryz.underlying34 (by kernel_rfl) rfl (by decide) qcS qfk (.slice (some ⟨w2.heap.size,0,none⟩) 0 0) rfl (Own.fresh (W:=Y2) 107 4 ghc hz2 (by rw [HY2])) (by simp) s.ghosts v.g pl0 li0 h.lay.gl rfl q2.out (by decide) ?_))
 intro v3 w3 O3 g3 f3
 obtain ⟨a3,c3,rfl⟩:=O3.form qcS
 have g3':(Y2.alloc (.cells #[] 107)).grownBy w3 (some w2.heap.size):=by rw [HY2];exact g3
 obtain ⟨X3,KB3,BY3⟩:=qeg hz2 BH2.out (k:=4) (by simp) g3' (.slice a3 s.ghosts.length c3)
 obtain ⟨Y3,HY3⟩:∃ Y,Y=w3.setCell ⟨w.heap.size,4,none⟩ (.slice a3 s.ghosts.length c3):=⟨_,rfl⟩
 rw [<- HY3] at KB3 BY3
 have BH3:Hid (Blk Y3 w.heap.size (syc s { v with t:=⟨a1,s.tasks.length,c1⟩,l:=⟨a2,s.locks.length,c2⟩,g:=⟨a3,s.ghosts.length,c3⟩ })):=BY3
 have RY3:Hid (Blk Y3 (w.heap.size+1) (syc Sy.zero Sv.zero)):=RY2.out.aside KB3 (by omega)
 have KY3:Keeps w Y3:=KB3.keeps KY2 (Nat.le_refl _)
 have hz3:Y3.heap.size=w3.heap.size:=by rw [HY3];simp
 have hz23:Hid (w2.heap.size <= w3.heap.size):=by show _ <= _;have e1:=g3'.size;have e2:=hz2;simp at e1;omega
 have O123:Hid (Own 47 14 tc Y3 (w.heap.size+2) (.slice a1 s.tasks.length c1) s.tasks):=O12.out.butG KB3 (by have:=hz1.out;have:=hz12.out;have:=hz23.out;omega)
 have M3:Hid (Mine Y3 Y1.heap.size w2.heap.size (.slice a2 s.locks.length c2) vs s.locks):=by
  show Mine _ _ _ _ _ _
  refine M2.out.same fun q hq hq1 hq2=>KB3.block q hq2 (by have:=hz1.out;omega)
 have N3:Hid (Own 107 4 ghc Y3 w2.heap.size (.slice a3 s.ghosts.length c3) s.ghosts):=by
  show Own _ _ _ _ _ _ _
  rw [HY3]
  exact O3.butG ((KeepsBut.refl w.heap.size w3).setCell 4 _) (by have:=hz1.out;have:=hz12.out;omega)
 obtain ⟨_,x1,x2⟩:=X3
 clear g3 g3' f3 O3 BY3 BH2 RY2 pl0 li0 hS0
 have hS1:=h.keeps KY3
 have pl1:=hS1.fc.keeps ((Keeps.refl Y3).alloc (.cells #[] 3))
 have li1:Lies 1 ic (Y3.alloc (.cells #[] 3)) v.f.a s.floors:=((h.keeps KY3).lay.f.lies).keeps ((Keeps.refl _).alloc _)
 rw [HY3] at pl1 li1
 go_wp2_with (at_builtin;(refine qeV rfl _ _ 25 rfl w3.heap.size 3 (.int .i64 0) 1 8 ic Tryz.underlying25 (by kernel_rfl) rfl (by decide) qaZ qci (.slice (some ⟨w3.heap.size,0,none⟩) 0 0) rfl (Own.fresh (W:=Y3) 3 1 ic hz3 (by rw [HY3])) (by simp) s.floors v.f pl1 li1 h.lay.fl rfl q3.out (by decide) ?_))
 intro v4 w4 O4 g4 f4
 obtain ⟨a4,c4,rfl⟩:=O4.form qaZ
 have g4':(Y3.alloc (.cells #[] 3)).grownBy w4 (some w3.heap.size):=by rw [HY3];exact g4
 obtain ⟨X4,KB4,BY4⟩:=qeg hz3 BH3.out (k:=5) (by simp) g4' (.slice a4 s.floors.length c4)
 obtain ⟨Y4,HY4⟩:∃ Y,Y=w4.setCell ⟨w.heap.size,5,none⟩ (.slice a4 s.floors.length c4):=⟨_,rfl⟩
 rw [<- HY4] at KB4 BY4
 have BH4:Hid (Blk Y4 w.heap.size (syc s { v with t:=⟨a1,s.tasks.length,c1⟩,l:=⟨a2,s.locks.length,c2⟩,g:=⟨a3,s.ghosts.length,c3⟩,f:=⟨a4,s.floors.length,c4⟩ })):=BY4
 have RY4:Hid (Blk Y4 (w.heap.size+1) (syc Sy.zero Sv.zero)):=RY3.out.aside KB4 (by omega)
 have KY4:Keeps w Y4:=KB4.keeps KY3 (Nat.le_refl _)
 have hz4:Y4.heap.size=w4.heap.size:=by rw [HY4];simp
 have hz34:Hid (w3.heap.size <= w4.heap.size):=by show _ <= _;have e1:=g4'.size;have e2:=hz3;simp at e1;omega
 have O124:Hid (Own 47 14 tc Y4 (w.heap.size+2) (.slice a1 s.tasks.length c1) s.tasks):=O123.out.butG KB4 (by have:=hz1.out;have:=hz12.out;have:=hz23.out;have:=hz34.out;omega)
 have N34:Hid (Own 107 4 ghc Y4 w2.heap.size (.slice a3 s.ghosts.length c3) s.ghosts):=N3.out.butG KB4 (by have:=hz1.out;have:=hz12.out;have:=hz23.out;have:=hz34.out;omega)
 have M4:Hid (Mine Y4 Y1.heap.size w2.heap.size (.slice a2 s.locks.length c2) vs s.locks):=by
  show Mine _ _ _ _ _ _
  refine M3.out.same fun q hq hq1 hq2=>KB4.block q hq2 (by have:=hz1.out;omega)
 have N4:Hid (Own 3 1 ic Y4 w3.heap.size (.slice a4 s.floors.length c4) s.floors):=by
  show Own _ _ _ _ _ _ _
  rw [HY4]
  exact O4.butG ((KeepsBut.refl w.heap.size w4).setCell 5 _) (by have:=hz1.out;have:=hz12.out;have:=hz23.out;omega)
 obtain ⟨_,x1,x2⟩:=X4
 clear g4 g4' f4 O4 BY4 BH3 RY3 pl1 li1 hS1
 have hS2:=h.keeps KY4
 have pl2:=hS2.rc.keeps ((Keeps.refl Y4).alloc (.cells #[] 85))
 have li2:Lies 3 tnc (Y4.alloc (.cells #[] 85)) v.r.a s.trace:=((h.keeps KY4).lay.r).keeps ((Keeps.refl _).alloc _)
 rw [HY4] at pl2 li2
 go_wp2_with (at_builtin;(refine qeV rfl _ _ 35 rfl w4.heap.size 85 (.agg (tnc Tn.zero)) 3 24 tnc Tryz.underlying35 (by kernel_rfl) rfl (by decide) qbL qeR (.slice (some ⟨w4.heap.size,0,none⟩) 0 0) rfl (Own.fresh (W:=Y4) 85 3 tnc hz4 (by rw [HY4])) (by simp) s.trace v.r pl2 li2 h.lay.rl rfl q4.out (by decide) ?_))
 intro v5 w5 O5 g5 f5
 obtain ⟨a5,c5,rfl⟩:=O5.form qbL
 have g5':(Y4.alloc (.cells #[] 85)).grownBy w5 (some w4.heap.size):=by rw [HY4];exact g5
 obtain ⟨X5,KB5,BY5⟩:=qeg hz4 BH4.out (k:=8) (by simp) g5' (.slice a5 s.trace.length c5)
 obtain ⟨Y5,HY5⟩:∃ Y,Y=w5.setCell ⟨w.heap.size,8,none⟩ (.slice a5 s.trace.length c5):=⟨_,rfl⟩
 rw [<- HY5] at KB5 BY5
 have BH5:Hid (Blk Y5 w.heap.size (syc s { v with t:=⟨a1,s.tasks.length,c1⟩,l:=⟨a2,s.locks.length,c2⟩,g:=⟨a3,s.ghosts.length,c3⟩,f:=⟨a4,s.floors.length,c4⟩,r:=⟨a5,s.trace.length,c5⟩ })):=BY5
 have RY5:Hid (Blk Y5 (w.heap.size+1) (syc Sy.zero Sv.zero)):=RY4.out.aside KB5 (by omega)
 have KY5:Keeps w Y5:=KB5.keeps KY4 (Nat.le_refl _)
 have hz5:Y5.heap.size=w5.heap.size:=by rw [HY5];simp
 have hz45:Hid (w4.heap.size <= w5.heap.size):=by show _ <= _;have e1:=g5'.size;have e2:=hz4;simp at e1;omega
 have O125:Hid (Own 47 14 tc Y5 (w.heap.size+2) (.slice a1 s.tasks.length c1) s.tasks):=O124.out.butG KB5 (by have:=hz1.out;have:=hz12.out;have:=hz23.out;have:=hz34.out;have:=hz45.out;omega)
 have N35:Hid (Own 107 4 ghc Y5 w2.heap.size (.slice a3 s.ghosts.length c3) s.ghosts):=N34.out.butG KB5 (by have:=hz1.out;have:=hz12.out;have:=hz23.out;have:=hz34.out;have:=hz45.out;omega)
 have N45:Hid (Own 3 1 ic Y5 w3.heap.size (.slice a4 s.floors.length c4) s.floors):=N4.out.butG KB5 (by have:=hz1.out;have:=hz12.out;have:=hz23.out;have:=hz34.out;have:=hz45.out;omega)
 have M5:Hid (Mine Y5 Y1.heap.size w2.heap.size (.slice a2 s.locks.length c2) vs s.locks):=by
  show Mine _ _ _ _ _ _
  refine M4.out.same fun q hq hq1 hq2=>KB5.block q hq2 (by have:=hz1.out;omega)
 have N5:Hid (Own 85 3 tnc Y5 w4.heap.size (.slice a5 s.trace.length c5) s.trace):=by
  show Own _ _ _ _ _ _ _
  rw [HY5]
  exact O5.butG ((KeepsBut.refl w.heap.size w5).setCell 8 _) (by have:=hz1.out;have:=hz12.out;have:=hz23.out;have:=hz34.out;omega)
 obtain ⟨_,x1,x2⟩:=X5
 clear g5 g5' f5 O5 BY5 BH4 RY4 pl2 li2 hS2
 have RZ:=RY5.out
 rw [HY5] at RZ
 obtain ⟨_,y1,y2⟩:=RZ
 go_wp2
 have D:=RY5.out.putC (syc s ⟨⟨a1,s.tasks.length,c1⟩,⟨a2,s.locks.length,c2⟩,⟨a3,s.ghosts.length,c3⟩,⟨a4,s.floors.length,c4⟩,⟨a5,s.trace.length,c5⟩⟩).toList rfl
 have KZ:=Keeps.putC (b:=w.heap.size+1) (by omega) (syc s ⟨⟨a1,s.tasks.length,c1⟩,⟨a2,s.locks.length,c2⟩,⟨a3,s.ghosts.length,c3⟩,⟨a4,s.floors.length,c4⟩,⟨a5,s.trace.length,c5⟩⟩).toList 0 KY5
 have KBZ:KeepsBut (w.heap.size+1) Y5 (putC Y5 (w.heap.size+1) 0 (syc s ⟨⟨a1,s.tasks.length,c1⟩,⟨a2,s.locks.length,c2⟩,⟨a3,s.ghosts.length,c3⟩,⟨a4,s.floors.length,c4⟩,⟨a5,s.trace.length,c5⟩⟩).toList):=KeepsBut.putOwn _ _ _ (KeepsBut.refl _ _)
 change bodyPost _ _ _ _ _ (putC (w5.setCell ⟨w.heap.size,8,none⟩ (.slice a5 s.trace.length c5)) (w.heap.size+1) 0 (syc s ⟨⟨a1,s.tasks.length,c1⟩,⟨a2,s.locks.length,c2⟩,⟨a3,s.ghosts.length,c3⟩,⟨a4,s.floors.length,c4⟩,⟨a5,s.trace.length,c5⟩⟩).toList)
 rw [<- HY5]
 have e1:=hz1.out
 have e2:=hz12.out
 have e3:=hz23.out
 have e4:=hz34.out
 have e5:=hz45.out
 have e6:=KBZ.size
 have S0:OwnS (putC Y5 (w.heap.size+1) 0 (syc s ⟨⟨a1,s.tasks.length,c1⟩,⟨a2,s.locks.length,c2⟩,⟨a3,s.ghosts.length,c3⟩,⟨a4,s.floors.length,c4⟩,⟨a5,s.trace.length,c5⟩⟩).toList) w.heap.size ⟨⟨a1,s.tasks.length,c1⟩,⟨a2,s.locks.length,c2⟩,⟨a3,s.ghosts.length,c3⟩,⟨a4,s.floors.length,c4⟩,⟨a5,s.trace.length,c5⟩⟩ vs s:=by
  refine ⟨(O125.out.butG KBZ (by omega)).base (by omega),(M5.out.same fun q hq _ hq2=>KBZ.block q hq2 (by omega)).widen (by omega) (by omega),(N35.out.butG KBZ (by omega)).base (by omega),(N45.out.butG KBZ (by omega)).base (by omega),(N5.out.butG KBZ (by omega)).base (by omega),?_⟩
  refine qnP (w.heap.size+2) Y1.heap.size w2.heap.size w3.heap.size w4.heap.size w5.heap.size (fun q hq=>⟨F1.out q hq,B1.out q hq⟩) ?_ (fun q hq => ?_) (fun q hq => ?_) (fun q hq => ?_) (by omega) (by omega) (by omega)
  ·rintro q (hq | ⟨x,hx,hq⟩)
   ·exact ⟨(M5.out.own.ltb q hq).1,M5.out.out q hq⟩
   ·obtain ⟨j,hj⟩:=List.mem_iff_getElem?.1 hx
    exact ⟨(M5.out.blkLt (.inr ⟨x,hx,hq⟩)).1,(M5.out.inn j x q hj hq).1⟩
  ·have:=N3.out.ltb q hq
   exact ⟨this.1,by omega⟩
  ·have:=N4.out.ltb q hq
   exact ⟨this.1,by omega⟩
  ·have:=N5.out.ltb q hq
   exact ⟨this.1,by omega⟩
 generalize putC Y5 (w.heap.size+1) 0 (syc s ⟨⟨a1,s.tasks.length,c1⟩,⟨a2,s.locks.length,c2⟩,⟨a3,s.ghosts.length,c3⟩,⟨a4,s.floors.length,c4⟩,⟨a5,s.trace.length,c5⟩⟩).toList=Z at D KZ S0 ⊢
 exact bodyPost_ret (v := .agg (syc s ⟨⟨a1,s.tasks.length,c1⟩,⟨a2,s.locks.length,c2⟩,⟨a3,s.ghosts.length,c3⟩,⟨a4,s.floors.length,c4⟩,⟨a5,s.trace.length,c5⟩⟩)) (by simp [results,Tryz.results184,go_sem,D.cells]) rfl ⟨⟨⟨a1,s.tasks.length,c1⟩,⟨a2,s.locks.length,c2⟩,⟨a3,s.ghosts.length,c3⟩,⟨a4,s.floors.length,c4⟩,⟨a5,s.trace.length,c5⟩⟩,vs,rfl,S0,KZ⟩
theorem qb5 {α:Type} {xs:List α} {k:Nat} {x:α} (h:xs[k]?=some x):xs.take (k+1)=xs.take k++[x]:=by
 have hk:=qas h
 rw [List.getElem?_eq_getElem hk] at h
 simp only [Option.some.injEq] at h
 rw [List.take_succ_eq_append_getElem hk,h]
theorem qbM {α:Type} {xs:List α} {k:Nat} {x d:α} (h:xs[k]?=some x):xs.getD k d=x:=by simp [List.getD,h]
set_option maxHeartbeats 1000000 in
theorem qnT {w:World} {v:Sv} {s:Sy} (h:SysOn w v s) (cpu:Int) :
  Calls Tryz.prog 237 #[.agg (syc s v),.int .i64 cpu] w fun e w'=>e = .returned (.int .i64 (qbu s cpu)) /\ Keeps w w':=by
 have hm:v.f.n <= 2000000:=by have:=h.size;have:=h.lay.fl;unfold qaj at *;omega
 have e1:IntKind.i64.wrap ((v.f.n:Int) - 1)=(v.f.n:Int) - 1:=Go.IntWalk.i64_in _ (by omega)
 have HF:Hid (qbu s cpu=if inB cpu 0 ((v.f.n:Int) - 1) then s.floors.getD cpu.toNat 0 else 0):=by show _=_;unfold qbu;rw [h.lay.fl]
 cases hc:inB cpu 0 ((v.f.n:Int) - 1)
 ·have Hr:Hid (qbu s cpu=0):=by show _=_;rw [HF.out,hc];rfl
  go_enter Tryz.func237,Tryz.ntmps237
  go_wp2_with (go_at_call 64;refine (qaf _ _ _ _).mono ?_;rintro e w' ⟨rfl,hw'⟩;have hw2:=hw'.symm;subst hw2;rw [hc])
  go_ret
  exact ⟨by rw [Hr.out];rfl,(Keeps.refl _).alloc _⟩
 ·obtain ⟨c0,c1⟩:=qap.1 hc
  obtain ⟨k,rfl⟩:∃ k:Nat,cpu=(k:Int):=⟨cpu.toNat,by omega⟩
  obtain ⟨x,hx⟩:=qai (xs:=s.floors) (k:=k) (by rw [h.lay.fl];omega)
  obtain ⟨b,off,ha,r0⟩:=h.lay.f.at hx
  have Hr:Hid (qbu s k=x):=by show _=_;rw [HF.out,hc,if_pos rfl,Int.toNat_natCast,qbM hx]
  have hlt:(k:Int) < (v.f.n:Int):=by omega
  have r1:∀ w',Keeps w w'->w'.cell? ⟨b,off+k,none⟩=some (.int .i64 x):=r0
  clear HF hx r0 h
  go_enter Tryz.func237,Tryz.ntmps237
  go_wp2_with (go_at_call 64;refine (qaf _ _ _ _).mono ?_;rintro e w' ⟨rfl,hw'⟩;have hw2:=hw'.symm;subst hw2;rw [hc])
  go_ret
  exact ⟨by rw [Hr.out];rfl,(Keeps.refl _).alloc _⟩
set_option maxHeartbeats 2000000 in
theorem qnU {w:World} {v:Sv} {s:Sy} (h:SysOn w v s) (hc:1 <= s.cpus /\ s.cpus <= 4) :
  Calls Tryz.prog 72 #[.agg (syc s v)] w fun e w'=>e = .returned (.bool (qb4 s)) /\ Keeps w w':=by
 obtain ⟨hc1,hc2⟩:=hc
 have hm:v.g.n <= 2000000:=by have:=h.size;have:=h.lay.gl;unfold qaj at *;omega
 have Hn:Hid (s.ghosts.length=v.g.n):=h.lay.gl
 have hs:Gs w v.g.a s.ghosts:=h.lay.g
 have e1:IntKind.i64.wrap (s.cpus - 1)=s.cpus - 1:=Go.IntWalk.i64_in _ (by omega)
 clear h
 have kW:=blkK w (.cells (syc s v) 37)
 have hb:=blkR w (syc s v) 37
 have hs1:=hs.keeps kW
 clear hs
 go_enter Tryz.func72,Tryz.ntmps72
 go_wp2
 generalize w.alloc (.cells (syc s v) 37)=W at *
 go_loopw [3] (fun i wr=>∃ k:Nat,k <= v.g.n /\ i = .int .i64 k /\ Hid ((s.ghosts.take k).all (ghB s.cpus)=true) /\ Keeps W wr) (fun i _=>v.g.n - (intOf i).toNat)
 case atStart=>exact ⟨0,Nat.zero_le _,rfl,by show _=_;simp,Keeps.refl _⟩
 case round =>
  obtain ⟨k,hk,rfl,HA,hK⟩:=hrel
  by_cases hlt:k < v.g.n
  ·obtain ⟨g,hg⟩:=qai (xs:=s.ghosts) (k:=k) (by rw [Hn.out];exact hlt)
   obtain ⟨b,off,ha,r0,r1⟩:=hs1.at hg (by omega)
   have hlt':(k:Int) < (v.g.n:Int):=by omega
   have Hg:Hid (s.ghosts[k]?=some g):=hg
   have Hstep:Hid ((s.ghosts.take (k+1)).all (ghB s.cpus)=ghB s.cpus g):=by
    show _=_
    rw [qb5 hg,List.all_append,HA.out]
    simp
   have Hno:Hid (ghB s.cpus g=false->qb4 s=false):=fun e=>by
    unfold qb4
    rw [List.all_eq_false.2 ⟨g,List.mem_of_getElem? hg,by rw [e];simp⟩]
    rfl
   clear hg hs1 Hg
   go_wp2_with fail
   have K0:Keeps W (wr.alloc (.cells (ghc g) 107)):=hK.alloc _
   have hX:=blkR wr (ghc g) 107
   change Calls _ _ _ (wr.alloc (.cells (ghc g) 107)) _
   generalize wr.alloc (.cells (ghc g) 107)=X at *
   refine (qaf _ _ _ _).mono ?_
   rintro e w' ⟨rfl,hw'⟩
   have hw2:=hw'.symm
   subst hw2
   cases c1:inB g.cpu 0 (s.cpus - 1)
   ·have Hr:Hid (qb4 s=false):=Hno.out (by unfold ghB;rw [c1];rfl)
    go_wp2
    go_ret
    exact ⟨by rw [Hr.out];rfl,kW.trans K0⟩
   go_wp2_with fail
   refine (qgr g.q g.p _).mono ?_
   rintro e w1 ⟨rfl,k1⟩
   have K1:Keeps W w1:=K0.trans k1
   cases c2:okB g.q g.p
   ·have Hr:Hid (qb4 s=false):=Hno.out (by unfold ghB;rw [c1,c2];rfl)
    go_wp2
    go_ret
    exact ⟨by rw [Hr.out];rfl,kW.trans K1⟩
   go_wp2_with fail
   refine (qaf _ _ _ _).mono ?_
   rintro e w' ⟨rfl,hw'⟩
   have hw2:=hw'.symm
   subst hw2
   cases c3:inB g.til 0 100040
   ·have Hr:Hid (qb4 s=false):=Hno.out (by unfold ghB;rw [c1,c2,c3];rfl)
    go_wp2
    go_ret
    exact ⟨by rw [Hr.out];rfl,kW.trans K1⟩
   have HG:Hid ((s.ghosts.take (k+1)).all (ghB s.cpus)=true):=by show _=_;rw [Hstep.out];unfold ghB;rw [c1,c2,c3];rfl
   go_wp2
   exact ⟨⟨k+1,by omega,by go_num,HG,K1⟩,by simp only [intOf];omega⟩
  ·have hlt':decide ((k:Int) < (v.g.n:Int))=false:=by simp;omega
   have Hr:Hid (qb4 s=decide ((v.g.n:Int) <= 12)):=by
    have h1:=HA.out
    rw [List.take_of_length_le (by have:=Hn.out;omega)] at h1
    show _=_
    unfold qb4
    rw [h1,Hn.out,Bool.true_and]
    congr 1
    exact propext (by omega)
   go_wp2
   go_ret
   exact ⟨by rw [Hr.out];rfl,kW.trans hK⟩
abbrev pc (x:Int × Int):Array Value:=#[.int .i64 x.1,.int .i64 x.2]
theorem qcs (x:Int × Int):(pc x).size=2:=rfl
theorem qei (x:Int × Int):∀ u∈(pc x).toList,u.oneCell'=true:=by
 intro u hu
 simp at hu
 rcases hu with rfl | rfl <;> rfl
abbrev OwnP (w:World) (base:Nat) (v:Value) (xs:List (Int × Int)):Prop:=Own 65 2 pc w base v xs
theorem qiM {w:World} {a:Option Addr} {xs:List (Int × Int)} (h:Lies 2 pc w a xs):Sh w a xs:=by
 rcases h with h | ⟨b,off,rfl,hb,h⟩
 ·exact .inl h
 ·refine .inr ⟨b,off,rfl,fun i hi => ?_⟩
  obtain ⟨x,hx⟩:=qai hi
  have e:xs.getD i (0,0)=x:=qbM hx
  rw [e]
  exact ⟨by simpa using h i x hx 0 (by omega),by simpa using h i x hx 1 (by omega)⟩
theorem qfl {α β:Type} (p:α->Bool) (f:α->β) {xs:List α} {k:Nat} {x:α} (h:xs[k]?=some x):((xs.take (k+1)).filter p).map f=((xs.take k).filter p).map f++(if p x then [f x] else []):=by
 rw [qb5 h,List.filter_append,List.map_append]
 congr 1
 cases e:p x <;> simp [e]
set_option maxHeartbeats 4000000 in
theorem qgn {w:World} {v:Sv} {s:Sy} (h:SysOn w v s) (cpu:Int) :
  Calls Tryz.prog 74 #[.agg (syc s v),.int .i64 cpu] w fun e w'=>∃ u,e = .returned u /\ OwnP w' w.heap.size u (qaL s cpu) /\ Keeps w w':=by
 have hm:v.t.n <= 2000000 /\ v.g.n <= 2000000:=by have:=h.size;have:=h.lay.gl;have:=h.lay.tl;unfold qaj at *;omega
 obtain ⟨hm1,hm2⟩:=hm
 have Hn:Hid (s.tasks.length=v.t.n):=h.lay.tl
 have Hg:Hid (s.ghosts.length=v.g.n):=h.lay.gl
 have kW:=blkK w (.cells (syc s v) 37)
 have hb:=blkR w (syc s v) 37
 have hs1:Hid (Ts (w.alloc (.cells (syc s v) 37)) v.t.a s.tasks):=h.lay.t.keeps kW
 have hs2:Hid (Gs (w.alloc (.cells (syc s v) 37)) v.g.a s.ghosts):=h.lay.g.keeps kW
 clear h
 have HE:Hid (qaL s cpu=(s.tasks.filter (qa2 cpu)).map qbd++(s.ghosts.filter (ghOn cpu)).map qbH):=rfl
 go_enter Tryz.func74,Tryz.ntmps74
 go_wp2
 have O0:Hid (OwnP ((w.alloc (.cells (syc s v) 37)).alloc (.cells #[] 65)) (w.alloc (.cells (syc s v) 37)).heap.size (.slice (some ⟨(w.alloc (.cells (syc s v) 37)).heap.size,0,none⟩) 0 0) []):=Own.new 65 2 pc _ (Nat.le_refl _)
 have hz:(w.alloc (.cells (syc s v) 37)).heap.size=w.heap.size+1:=by simp
 rw [hz] at O0
 have HW:Hid (w.heap.size <= (w.alloc (.cells (syc s v) 37)).heap.size):=by show _ <= _;omega
 have Hz:Hid ((w.alloc (.cells (syc s v) 37)).heap.size=w.heap.size+1):=hz
 clear hz
 generalize w.alloc (.cells (syc s v) 37)=W at *
 go_loopw [5,6] (fun o i wr=>∃ (k:Nat) (xs:List (Int × Int)),k <= v.t.n /\ i = .int .i64 k /\ xs.length <= k /\ Hid (xs=((s.tasks.take k).filter (qa2 cpu)).map qbd) /\ Hid (OwnP wr W.heap.size o xs) /\ Keeps W wr) (fun _ i _=>v.t.n - (intOf i).toNat)
 case atStart=>exact ⟨0,[],Nat.zero_le _,rfl,by simp,by show _=_;simp,by show OwnP _ _ _ _;rw [Hz.out];exact O0.out,(Keeps.refl _).alloc _⟩
 case round =>
  obtain ⟨k,xs,hk,rfl,hxl,HX,O,hK⟩:=hrel
  clear O0
  by_cases hlt:k < v.t.n
  ·obtain ⟨t,ht⟩:=qai (xs:=s.tasks) (k:=k) (by rw [Hn.out];exact hlt)
   obtain ⟨b,off,ha,r0,r1⟩:=hs1.out.at ht (by omega)
   have hlt':(k:Int) < (v.t.n:Int):=by omega
   have Hstep:=qfl (qa2 cpu) qbd ht
   rw [<- HX.out] at Hstep
   have HS:Hid (((s.tasks.take (k+1)).filter (qa2 cpu)).map qbd=xs++(if qa2 cpu t then [qbd t] else [])):=Hstep
   clear ht Hstep
   cases c1:(t.cpu==cpu)
   ·have Hx:Hid (xs=((s.tasks.take (k+1)).filter (qa2 cpu)).map qbd):=by show _=_;rw [HS.out];simp [qa2,c1]
    go_wp2
    exact ⟨⟨k+1,xs,by omega,by go_num,by omega,Hx,O.out.keeps ((Keeps.refl _).alloc _),hK.alloc _⟩,by simp only [intOf];omega⟩
   cases c2:(t.cls==1)
   ·have Hx:Hid (xs=((s.tasks.take (k+1)).filter (qa2 cpu)).map qbd):=by show _=_;rw [HS.out];simp [qa2,c1,c2]
    go_wp2
    exact ⟨⟨k+1,xs,by omega,by go_num,by omega,Hx,O.out.keeps ((Keeps.refl _).alloc _),hK.alloc _⟩,by simp only [intOf];omega⟩
   have Hx:Hid (xs++[(t.q,t.p)]=((s.tasks.take (k+1)).filter (qa2 cpu)).map qbd):=by show _=_;rw [HS.out];simp [qa2,c1,c2,qbd]
   go_wp2_with (at_builtin;(refine qbi rfl _ _ 95 rfl W 65 (.agg (pc (0,0))) 2 16 pc Tryz.underlying95 (by kernel_rfl) rfl (by decide) qcs qei _ xs rfl wr O.out hK (((Keeps.refl _).alloc _).alloc _) (t.q,t.p) (wr.heap.size+1) 1 (by have:=Blk.new (wr.alloc (.cells (tc t) 47)) (pc (t.q,t.p)) 65;simpa using this) rfl ?c1 ?c2 ?_))
   case c1=>unfold maxLen;omega
   case c2=>omega
   intro v' w5 own5 k5 _
   have HO:Hid (OwnP w5 W.heap.size v' (xs++[(t.q,t.p)])):=own5
   clear own5 O
   go_wp2
   exact ⟨⟨k+1,xs++[(t.q,t.p)],by omega,by go_num,by simp;omega,Hx,HO,k5⟩,by simp only [intOf];omega⟩
  ·have hlt':decide ((k:Int) < (v.t.n:Int))=false:=by simp;omega
   have HP:Hid ((s.tasks.filter (qa2 cpu)).map qbd=xs):=by
    have h1:=HX.out
    rw [List.take_of_length_le (by have:=Hn.out;omega)] at h1
    exact h1.symm
   clear HX
   go_wp2
   generalize wr=V at *
   go_loopw [5,8] (fun o i wr=>∃ (j:Nat) (ys:List (Int × Int)),j <= v.g.n /\ i = .int .i64 j /\ ys.length <= v.t.n+j /\ Hid (ys=xs++((s.ghosts.take j).filter (ghOn cpu)).map qbH) /\ Hid (OwnP wr W.heap.size o ys) /\ Keeps W wr) (fun _ i _=>v.g.n - (intOf i).toNat)
   case atStart=>exact ⟨0,xs,Nat.zero_le _,rfl,by omega,by show _=_;simp,O,hK⟩
   case round =>
    obtain ⟨j,ys,hj,rfl,hyl,HY,O2,hK2⟩:=hrel
    clear O hK
    by_cases hjt:j < v.g.n
    ·obtain ⟨g,hg⟩:=qai (xs:=s.ghosts) (k:=j) (by rw [Hg.out];exact hjt)
     obtain ⟨b,off,ha,r0,r1⟩:=hs2.out.at hg (by omega)
     have hjt':(j:Int) < (v.g.n:Int):=by omega
     have r2:∀ w',Keeps W w'->w'.cell? ⟨b,off+j*4+1+1,none⟩=some (.int .i64 g.p):=fun w' h=>r1 w' h 2 (by omega)
     have HS:Hid (xs++((s.ghosts.take (j+1)).filter (ghOn cpu)).map qbH=ys++(if ghOn cpu g then [qbH g] else [])):=by
      show _=_
      rw [qfl (ghOn cpu) qbH hg,HY.out,List.append_assoc]
     clear hg
     cases c1:(g.cpu==cpu)
     ·have Hx:Hid (ys=xs++((s.ghosts.take (j+1)).filter (ghOn cpu)).map qbH):=by show _=_;rw [HS.out];simp [ghOn,c1]
      go_wp2
      exact ⟨⟨j+1,ys,by omega,by go_num,by omega,Hx,O2,hK2⟩,by simp only [intOf];omega⟩
     have Hx:Hid (ys++[(g.q,g.p)]=xs++((s.ghosts.take (j+1)).filter (ghOn cpu)).map qbH):=by show _=_;rw [HS.out];simp [ghOn,c1,qbH]
     go_wp2_with (at_builtin;(refine qbi rfl _ _ 95 rfl W 65 (.agg (pc (0,0))) 2 16 pc Tryz.underlying95 (by kernel_rfl) rfl (by decide) qcs qei _ ys rfl wr O2.out hK2 ((Keeps.refl _).alloc _) (g.q,g.p) _ 1 (Blk.new _ _ _) rfl ?c1 ?c2 ?_))
     case c1=>unfold maxLen;omega
     case c2=>omega
     intro v' w5 own5 k5 _
     have HO:Hid (OwnP w5 W.heap.size v' (ys++[(g.q,g.p)])):=own5
     clear own5 O2
     go_wp2
     exact ⟨⟨j+1,ys++[(g.q,g.p)],by omega,by go_num,by simp;omega,Hx,HO,k5⟩,by simp only [intOf];omega⟩
    ·have hjt':decide ((j:Int) < (v.g.n:Int))=false:=by simp;omega
     have HQ:Hid (qaL s cpu=ys):=by
      have h1:=HY.out
      rw [List.take_of_length_le (by have:=Hg.out;omega)] at h1
      show _=_
      rw [HE.out,h1,HP.out]
     go_wp2
     go_ret
     exact ⟨_,rfl,by rw [HQ.out];exact O2.out.base HW.out,kW.trans hK2⟩
theorem qgo {α:Type} (p:α->Bool) {xs:List α} {k:Nat} {x:α} (h:xs[k]?=some x):(xs.take (k+1)).filter p=(xs.take k).filter p++(if p x then [x] else []):=by
 rw [qb5 h,List.filter_append]
 congr 1
 cases e:p x <;> simp [e]
set_option maxHeartbeats 4000000 in
theorem qnV {w:World} {v:Sv} {s:Sy} (h:SysOn w v s) (cpu:Int) :
  Calls Tryz.prog 51 #[.agg (syc s v),.int .i64 cpu] w fun e w'=>∃ u,e = .returned u /\ Own 47 14 tc w' w.heap.size u (qdC s cpu) /\ Keeps w w':=by
 have hm1:v.t.n <= 2000000:=by have:=h.size;have:=h.lay.tl;unfold qaj at *;omega
 have Hn:Hid (s.tasks.length=v.t.n):=h.lay.tl
 have kW:=blkK w (.cells (syc s v) 37)
 have hb:=blkR w (syc s v) 37
 have hs1:Hid (Ts (w.alloc (.cells (syc s v) 37)) v.t.a s.tasks):=h.lay.t.keeps kW
 clear h
 have HE:Hid (qdC s cpu=s.tasks.filter (qcp cpu)):=rfl
 go_enter Tryz.func51,Tryz.ntmps51
 go_wp2
 have O0:Hid (Own 47 14 tc ((w.alloc (.cells (syc s v) 37)).alloc (.cells #[] 47)) (w.alloc (.cells (syc s v) 37)).heap.size (.slice (some ⟨(w.alloc (.cells (syc s v) 37)).heap.size,0,none⟩) 0 0) []):=Own.new 47 14 tc _ (Nat.le_refl _)
 have hz:(w.alloc (.cells (syc s v) 37)).heap.size=w.heap.size+1:=by simp
 rw [hz] at O0
 have HW:Hid (w.heap.size <= (w.alloc (.cells (syc s v) 37)).heap.size):=by show _ <= _;omega
 have Hz:Hid ((w.alloc (.cells (syc s v) 37)).heap.size=w.heap.size+1):=hz
 clear hz
 generalize w.alloc (.cells (syc s v) 37)=W at *
 go_loopw [5,6] (fun o i wr=>∃ (k:Nat) (xs:List Tsk),k <= v.t.n /\ i = .int .i64 k /\ xs.length <= k /\ Hid (xs=(s.tasks.take k).filter (qcp cpu)) /\ Hid (Own 47 14 tc wr W.heap.size o xs) /\ Keeps W wr) (fun _ i _=>v.t.n - (intOf i).toNat)
 case atStart=>exact ⟨0,[],Nat.zero_le _,rfl,by simp,by show _=_;simp,by show Own _ _ _ _ _ _ _;rw [Hz.out];exact O0.out,(Keeps.refl _).alloc _⟩
 case round =>
  obtain ⟨k,xs,hk,rfl,hxl,HX,O,hK⟩:=hrel
  clear O0
  by_cases hlt:k < v.t.n
  ·obtain ⟨t,ht⟩:=qai (xs:=s.tasks) (k:=k) (by rw [Hn.out];exact hlt)
   obtain ⟨b,off,ha,r0,r1⟩:=hs1.out.at ht (by omega)
   have hlt':(k:Int) < (v.t.n:Int):=by omega
   have Hstep:=qgo (qcp cpu) ht
   rw [<- HX.out] at Hstep
   have HS:Hid ((s.tasks.take (k+1)).filter (qcp cpu)=xs++(if qcp cpu t then [t] else [])):=Hstep
   clear ht Hstep
   cases c1:(t.cpu==cpu)
   ·have Hx:Hid (xs=(s.tasks.take (k+1)).filter (qcp cpu)):=by show _=_;rw [HS.out];simp [qcp,c1]
    go_wp2
    exact ⟨⟨k+1,xs,by omega,by go_num,by omega,Hx,O,hK⟩,by simp only [intOf];omega⟩
   cases c2:t.idle
   rotate_left
   ·have Hx:Hid (xs=(s.tasks.take (k+1)).filter (qcp cpu)):=by show _=_;rw [HS.out];simp [qcp,c1,c2]
    go_wp2
    exact ⟨⟨k+1,xs,by omega,by go_num,by omega,Hx,O,hK⟩,by simp only [intOf];omega⟩
   have Hx:Hid (xs++[t]=(s.tasks.take (k+1)).filter (qcp cpu)):=by show _=_;rw [HS.out];simp [qcp,c1,c2]
   obtain ⟨u,rfl⟩:∃ u:Tsk,t={ u with idle:=false }:=⟨t,by rw [<- c2]⟩
   clear HS c2
   go_wp2_with (at_builtin;(refine qbi rfl _ _ 32 rfl W 47 (.agg (tc Tsk.zero)) 14 112 tc Tryz.underlying32 (by kernel_rfl) rfl (by decide) qaw qb6 _ xs rfl wr O.out hK ((Keeps.refl _).alloc _) { u with idle:=false } _ 1 (Blk.new _ _ _) rfl ?c1 ?c2 ?_))
   case c1=>unfold maxLen;omega
   case c2=>omega
   intro v' w5 own5 k5 _
   have HO:Hid (Own 47 14 tc w5 W.heap.size v' (xs++[{ u with idle:=false }])):=own5
   clear own5 O
   go_wp2
   exact ⟨⟨k+1,xs++[{ u with idle:=false }],by omega,by go_num,by simp;omega,Hx,HO,k5⟩,by simp only [intOf];omega⟩
  ·have hlt':decide ((k:Int) < (v.t.n:Int))=false:=by simp;omega
   have HP:Hid (qdC s cpu=xs):=by
    have h1:=HX.out
    rw [List.take_of_length_le (by have:=Hn.out;omega)] at h1
    show _=_
    rw [HE.out,h1]
   clear HX
   go_wp2
   go_ret
   exact ⟨_,rfl,by rw [HP.out];exact O.out.base HW.out,kW.trans hK⟩
end Go.Proofs.YthpdlbcdbncnhaaGreatDoor
