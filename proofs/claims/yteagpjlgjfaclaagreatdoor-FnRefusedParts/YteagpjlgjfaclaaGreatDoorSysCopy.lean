/-
  A system of one's own: one row of it is another one now, th
  The system: a copy of it.
  The system: the laws' own helpers.
  The system: the laws' own copy of it.
  The system: two that are alike.
  The system: its rows are marked, and looked at again.
  The system is marked, and looked at again.
  A system of one's own: a task is stored over another one; a
  A system of one's own, in a variable: calls that turn it, s
  A system of one's own in a variable, and what it was when t
-/
import Derived.Test.YteagpjlgjfaclaaGreatDoorStepCopy
import Derived.Test.YteagpjlgjfaclaaGreatDoorLockCopy
import Derived.Test.YteagpjlgjfaclaaGreatDoorPlain1
import Derived.Test.YteagpjlgjfaclaaGreatDoorDueSpec
namespace Go.Proofs.YteagpjlgjfaclaaGreatDoor
set_option maxRecDepth 100000
open Go.RowKit
def qdU (v:Value) (vs:List Lv) (b:Nat):Prop:=v.ownBlock=some b∨∃ x∈vs,x.row.ownBlock=some b
theorem Mine.sameB {w w':World} {lo hi:Nat} {v:Value} {vs:List Lv} {ls:List Lk} (h:Mine w lo hi v vs ls) (k:∀ b,qdU v vs b->w'.heap[b]?=w.heap[b]?):Mine w' lo hi v vs ls :=
 ⟨h.len,h.own.same fun b e=>k b (.inl e),h.out,fun i x l hx hl=>⟨(h.rows i x l hx hl).1,(h.rows i x l hx hl).2.same fun b e=>k b (.inr ⟨x,List.mem_of_getElem? hx,e⟩)⟩,h.inn,h.apart⟩
theorem Mine.blkLt {w:World} {lo hi:Nat} {v:Value} {vs:List Lv} {ls:List Lk} (h:Mine w lo hi v vs ls) {b:Nat} (hb:qdU v vs b):lo <= b /\ b < w.heap.size:=by
 rcases hb with e | ⟨x,hx,e⟩
 ·exact h.own.ltb b e
 ·obtain ⟨i,hi⟩:=List.mem_iff_getElem?.1 hx
  obtain ⟨l,hl⟩:=qal (xs:=ls) (k:=i) (by rw [<- h.len];exact qaw hi)
  exact (h.rows i x l hi hl).2.ltb b e
theorem OwnS.blkLt {w:World} {lo:Nat} {v:Sv} {vs:List Lv} {s:Sy} (h:OwnS w lo v vs s) {i b:Nat} (hb:qaf v vs i b):lo <= b /\ b < w.heap.size:=by
 match i,hb with
 | 0,hb=>exact h.t.ltb b hb
 | 1,hb=>exact h.l.blkLt hb
 | 2,hb=>exact h.g.ltb b hb
 | 3,hb=>exact h.f.ltb b hb
 | 4,hb=>exact h.r.ltb b hb
theorem OwnS.others {w w':World} {lo:Nat} {v:Sv} {vs:List Lv} {s:Sy} (h:OwnS w lo v vs s) (i:Nat) (k:∀ b,b < w.heap.size->¬ qaf v vs i b->w'.heap[b]?=w.heap[b]?) {j b:Nat} (hj:j≠i) (hb:qaf v vs j b):w'.heap[b]?=w.heap[b]? :=
 k b (h.blkLt hb).2 fun hi=>hj (h.ap j i b hb hi)
theorem qdw {w:World} {lo:Nat} {v v':Sv} {vs vs':List Lv} {s:Sy} (h:OwnS w lo v vs s) (i:Nat) (hi:∀ b,qaf v' vs' i b->qaf v vs i b∨w.heap.size <= b) (ho:∀ j b,j≠i->qaf v' vs' j b->qaf v vs j b) :
  ∀ j k b,qaf v' vs' j b->qaf v' vs' k b->j=k:=by
 intro j k b hj hk
 by_cases ej:j=i
 ·by_cases ek:k=i
  ·omega
  ·have h2:=ho k b ek hk
   rw [ej] at hj
   rcases hi b hj with h1 | h1
   ·rw [ej];exact h.ap i k b h1 h2
   ·have:=(h.blkLt h2).2;omega
 ·have h1:=ho j b ej hj
  by_cases ek:k=i
  ·rw [ek] at hk
   rcases hi b hk with h2 | h2
   ·rw [ek];exact h.ap j i b h1 h2
   ·have:=(h.blkLt h1).2;omega
  ·exact h.ap j k b h1 (ho k b ek hk)
theorem OwnS.setT {w w':World} {lo:Nat} {v:Sv} {vs:List Lv} {s:Sy} (h:OwnS w lo v vs s) (hz:w.heap.size <= w'.heap.size) (k:∀ b,b < w.heap.size->¬ qaf v vs 0 b->w'.heap[b]?=w.heap[b]?) (x:Rw) (xs:List Tsk) (O:Own 43 14 tc w' lo x.val xs) (hx:∀ b,x.val.ownBlock=some b->v.t.val.ownBlock=some b∨w.heap.size <= b) :
  OwnS w' lo { v with t:=x } vs { s with tasks:=xs } :=
 ⟨O,(h.l.sameB fun b e=>h.others 0 k (j:=1) (by decide) e).widen (Nat.le_refl _) hz,h.g.same fun b e=>h.others 0 k (j:=2) (by decide) e,h.f.same fun b e=>h.others 0 k (j:=3) (by decide) e,h.r.same fun b e=>h.others 0 k (j:=4) (by decide) e,qdw h 0 hx (by
   intro j b hj hb
   match j,hb with
   | 0,hb=>exact absurd rfl hj
   | 1,hb=>exact hb
   | 2,hb=>exact hb
   | 3,hb=>exact hb
   | 4,hb=>exact hb)⟩
theorem OwnS.setG {w w':World} {lo:Nat} {v:Sv} {vs:List Lv} {s:Sy} (h:OwnS w lo v vs s) (hz:w.heap.size <= w'.heap.size) (k:∀ b,b < w.heap.size->¬ qaf v vs 2 b->w'.heap[b]?=w.heap[b]?) (x:Rw) (xs:List Gh) (O:Own 87 4 ghc w' lo x.val xs) (hx:∀ b,x.val.ownBlock=some b->v.g.val.ownBlock=some b∨w.heap.size <= b) :
  OwnS w' lo { v with g:=x } vs { s with ghosts:=xs } :=
 ⟨h.t.same fun b e=>h.others 2 k (j:=0) (by decide) e,(h.l.sameB fun b e=>h.others 2 k (j:=1) (by decide) e).widen (Nat.le_refl _) hz,O,h.f.same fun b e=>h.others 2 k (j:=3) (by decide) e,h.r.same fun b e=>h.others 2 k (j:=4) (by decide) e,qdw h 2 hx (by
   intro j b hj hb
   match j,hb with
   | 0,hb=>exact hb
   | 1,hb=>exact hb
   | 2,hb=>exact absurd rfl hj
   | 3,hb=>exact hb
   | 4,hb=>exact hb)⟩
theorem OwnS.setF {w w':World} {lo:Nat} {v:Sv} {vs:List Lv} {s:Sy} (h:OwnS w lo v vs s) (hz:w.heap.size <= w'.heap.size) (k:∀ b,b < w.heap.size->¬ qaf v vs 3 b->w'.heap[b]?=w.heap[b]?) (x:Rw) (xs:List Int) (O:OwnN w' lo x.val xs) (hx:∀ b,x.val.ownBlock=some b->v.f.val.ownBlock=some b∨w.heap.size <= b) :
  OwnS w' lo { v with f:=x } vs { s with floors:=xs } :=
 ⟨h.t.same fun b e=>h.others 3 k (j:=0) (by decide) e,(h.l.sameB fun b e=>h.others 3 k (j:=1) (by decide) e).widen (Nat.le_refl _) hz,h.g.same fun b e=>h.others 3 k (j:=2) (by decide) e,O,h.r.same fun b e=>h.others 3 k (j:=4) (by decide) e,qdw h 3 hx (by
   intro j b hj hb
   match j,hb with
   | 0,hb=>exact hb
   | 1,hb=>exact hb
   | 2,hb=>exact hb
   | 3,hb=>exact absurd rfl hj
   | 4,hb=>exact hb)⟩
theorem OwnS.setR {w w':World} {lo:Nat} {v:Sv} {vs:List Lv} {s:Sy} (h:OwnS w lo v vs s) (hz:w.heap.size <= w'.heap.size) (k:∀ b,b < w.heap.size->¬ qaf v vs 4 b->w'.heap[b]?=w.heap[b]?) (x:Rw) (xs:List Tn) (O:Own 104 3 tnc w' lo x.val xs) (hx:∀ b,x.val.ownBlock=some b->v.r.val.ownBlock=some b∨w.heap.size <= b) :
  OwnS w' lo { v with r:=x } vs { s with trace:=xs } :=
 ⟨h.t.same fun b e=>h.others 4 k (j:=0) (by decide) e,(h.l.sameB fun b e=>h.others 4 k (j:=1) (by decide) e).widen (Nat.le_refl _) hz,h.g.same fun b e=>h.others 4 k (j:=2) (by decide) e,h.f.same fun b e=>h.others 4 k (j:=3) (by decide) e,O,qdw h 4 hx (by
   intro j b hj hb
   match j,hb with
   | 0,hb=>exact hb
   | 1,hb=>exact hb
   | 2,hb=>exact hb
   | 3,hb=>exact hb
   | 4,hb=>exact absurd rfl hj)⟩
theorem OwnS.setL {w w':World} {lo:Nat} {v:Sv} {vs vs':List Lv} {s:Sy} (h:OwnS w lo v vs s) (k:∀ b,b < w.heap.size->¬ qaf v vs 1 b->w'.heap[b]?=w.heap[b]?) (x:Rw) (ls:List Lk) (L:Mine w' lo w'.heap.size x.val vs' ls) (hx:∀ b,qdU x.val vs' b->qdU v.l.val vs b∨w.heap.size <= b) :
  OwnS w' lo { v with l:=x } vs' { s with locks:=ls } :=
 ⟨h.t.same fun b e=>h.others 1 k (j:=0) (by decide) e,L,h.g.same fun b e=>h.others 1 k (j:=2) (by decide) e,h.f.same fun b e=>h.others 1 k (j:=3) (by decide) e,h.r.same fun b e=>h.others 1 k (j:=4) (by decide) e,qdw h 1 hx (by
   intro j b hj hb
   match j,hb with
   | 0,hb=>exact hb
   | 1,hb=>exact absurd rfl hj
   | 2,hb=>exact hb
   | 3,hb=>exact hb
   | 4,hb=>exact hb)⟩
theorem OwnS.nums {w:World} {lo:Nat} {v:Sv} {vs:List Lv} {s:Sy} (h:OwnS w lo v vs s) (now cpus seq missed:Int):OwnS w lo v vs { s with now:=now,cpus:=cpus,seq:=seq,missed:=missed }:=⟨h.t,h.l,h.g,h.f,h.r,h.ap⟩
end Go.Proofs.YteagpjlgjfaclaaGreatDoor
namespace Go.Proofs.YteagpjlgjfaclaaGreatDoor
set_option maxRecDepth 100000
open Go.RowKit
attribute [local go_sem] Keeps.refl Keeps.alloc Keeps.drew Keeps.drewN
abbrev Sv.zero:Sv:=⟨⟨none,0,0⟩,⟨none,0,0⟩,⟨none,0,0⟩,⟨none,0,0⟩,⟨none,0,0⟩⟩
theorem Own.fresh {α:Type} (e:TypeId) (sz:Nat) (c:α->Array Value) {w W:World} {n:Nat} (h:W.heap.size=n) (hw:w=W.alloc (.cells #[] e)):Own e sz c w n (.slice (Option.some ⟨n,0,none⟩) 0 0) []:=by
 subst hw h
 exact Own.new e sz c W (Nat.le_refl _)
theorem Own.form {α:Type} {e:TypeId} {sz:Nat} {c:α->Array Value} {w:World} {base:Nat} {v:Value} {xs:List α} (h:Own e sz c w base v xs) (hc:∀ x,(c x).size=sz):∃ a cap,v = .slice a xs.length cap:=by
 obtain ⟨a,cap,e,-,-,-⟩:=h.slice hc
 exact ⟨a,cap,e⟩
theorem Blk.aside {g:Nat} {w w':World} {b:Nat} {C:Array Value} (h:Blk w b C) (k:KeepsBut g w w') (hg:b≠g):Blk w' b C :=
 ⟨Nat.lt_of_lt_of_le h.lt k.size,fun i=>(k.cells b i h.lt hg).trans (h.cells i),fun i=>(World.frozen?_of_block (w:=w) (k.block b h.lt hg)).trans (h.frozens i)⟩
theorem KeepsBut.putOwn {g:Nat} {a:World}:∀ (L:List Value) (w:World) (k:Nat),KeepsBut g a w->KeepsBut g a (Go.Proofs.YteagpjlgjfaclaaGreatDoor.putC w g k L)
 | [],_,_,h=>h
 | v::r,_,k,h=>KeepsBut.putOwn r _ (k+1) (h.setCell k v)
theorem qdu {X w':World} {e:TypeId} {b k n:Nat} {C:Array Value} (hn:X.heap.size=n) (B:Blk X b C) (hk:k < C.size) (g:(X.alloc (.cells #[] e)).grownBy w' (some n)) (u:Value) :
  Blk w' b C /\ KeepsBut b X (w'.setCell ⟨b,k,none⟩ u) /\ Blk (w'.setCell ⟨b,k,none⟩ u) b (C.setIfInBounds k u):=by
 have hl:=B.lt
 have B1:Blk w' b C:=(B.alloc _).grown g (by intro q hq;cases hq;omega)
 exact ⟨B1,((KeepsBut.of ((Keeps.refl X).alloc _)).grown g (by intro q hq;cases hq;omega)).setCell k u,B1.set k hk u⟩
set_option maxHeartbeats 8000000 in
theorem qdS {w:World} {v:Sv} {s:Sy} (h:SysOn w v s) :
  Calls Tryz.prog 40 #[.agg (syc s v)] w fun e w'=>∃ v' vs,e = .returned (.agg (syc s v')) /\ OwnS w' w.heap.size v' vs s /\ Keeps w w':=by
 have hz:=h.size
 have q1:Hid (s.tasks.length <= 2097152):=by show _ <= _;unfold qai at hz;omega
 have q2:Hid (s.ghosts.length <= 2097152):=by show _ <= _;unfold qai at hz;omega
 have q3:Hid (s.floors.length <= 2097152):=by show _ <= _;unfold qai at hz;omega
 have q4:Hid (s.trace.length <= 2097152):=by show _ <= _;unfold qai at hz;omega
 clear hz
 obtain ⟨W,HW⟩:∃ W,W=(w.alloc (.cells (syc s v) 30)).alloc (.cells (syc Sy.zero Sv.zero) 30):=⟨_,rfl⟩
 have kW:Keeps w W:=by rw [HW];exact ((Keeps.refl w).alloc _).alloc _
 have hsz:W.heap.size=w.heap.size+2:=by rw [HW];simp
 have B0:Hid (Blk W w.heap.size (syc s v)):=by show Blk _ _ _;rw [HW];exact (Blk.new _ _ _).alloc _
 have R0:Hid (Blk W (w.heap.size+1) (syc Sy.zero Sv.zero)):=by
  show Blk _ _ _
  rw [HW]
  have:=Blk.new (w.alloc (.cells (syc s v) 30)) (syc Sy.zero Sv.zero) 30
  simpa using this
 have hS:Hid (SysOn W v s):=h.keeps kW
 go_enter Tryz.func40,Tryz.ntmps40
 go_wp2_with (at_builtin;(refine qed rfl _ _ 24 rfl (w.heap.size+2) 43 (tk Tsk.zero) 14 112 tc Tryz.underlying24 (by kernel_rfl) rfl (by decide) qao qbs (.slice (some ⟨w.heap.size+2,0,none⟩) 0 0) rfl (Own.fresh (W:=W) 43 14 tc hsz (by rw [HW];rfl)) (by simp) s.tasks v.t (by rw [HW] at hS;exact (hS.out.tc.keeps ((Keeps.refl _).alloc _))) (by rw [HW] at hS;exact (hS.out.lay.t.keeps ((Keeps.refl _).alloc _))) h.lay.tl rfl q1.out (by decide) ?_))
 intro v1 w1 O1 g1 f1
 obtain ⟨a1,c1,rfl⟩:=O1.form qao
 have g1':(W.alloc (.cells #[] 43)).grownBy w1 (some (w.heap.size+2)):=by rw [HW];exact g1
 obtain ⟨X1,KB1,BY1⟩:=qdu hsz B0.out (k:=2) (by simp) g1' (.slice a1 s.tasks.length c1)
 have F1:Hid (∀ q,(Value.slice a1 s.tasks.length c1).ownBlock=some q->w.heap.size+2 <= q):=fun q hq=>(O1.ltb q hq).1
 have O1Y:Hid (Own 43 14 tc (w1.setCell ⟨w.heap.size,2,none⟩ (.slice a1 s.tasks.length c1)) (w.heap.size+2) (.slice a1 s.tasks.length c1) s.tasks):=O1.butG ((KeepsBut.refl w.heap.size w1).setCell 2 _) (by omega)
 have RY1:Hid (Blk (w1.setCell ⟨w.heap.size,2,none⟩ (.slice a1 s.tasks.length c1)) (w.heap.size+1) (syc Sy.zero Sv.zero)):=R0.out.aside KB1 (by omega)
 have KY1:Keeps w (w1.setCell ⟨w.heap.size,2,none⟩ (.slice a1 s.tasks.length c1)):=KB1.keeps kW (Nat.le_refl _)
 have BH1:Hid (Blk (w1.setCell ⟨w.heap.size,2,none⟩ (.slice a1 s.tasks.length c1)) w.heap.size (syc s { v with t:=⟨a1,s.tasks.length,c1⟩ })):=BY1
 have hz1:Hid (w.heap.size+2 <= (w1.setCell ⟨w.heap.size,2,none⟩ (.slice a1 s.tasks.length c1)).heap.size):=by show _ <= _;have:=KB1.size;omega
 obtain ⟨_,x1,x2⟩:=X1
 clear g1 g1' f1 O1 KB1 BY1 B0 R0 kW hS HW hsz
 go_wp2_with fail
 generalize w1.setCell ⟨w.heap.size,2,none⟩ (.slice a1 s.tasks.length c1)=Y1 at *
 have CP:=qfh v.l.a v.l.cap s.locks Y1 (by have:=h.size;unfold qai at this;omega) (h.keeps KY1).lay.l
 rw [h.lay.ll] at CP
 refine CP.mono ?_
 rintro e w2 ⟨lv,vs,rfl,ML,k2⟩
 obtain ⟨a2,c2,rfl,-,-⟩:=ML.lks
 clear CP x1 x2
 obtain ⟨Y2,HY2⟩:∃ Y2,Y2=w2.setCell ⟨w.heap.size,3,none⟩ (.slice a2 s.locks.length c2):=⟨_,rfl⟩
 have X2:=BH1.out.keeps k2
 have KB2:KeepsBut w.heap.size Y1 Y2:=by rw [HY2];exact (KeepsBut.of k2).setCell 3 _
 have BH2:Hid (Blk Y2 w.heap.size (syc s { v with t:=⟨a1,s.tasks.length,c1⟩,l:=⟨a2,s.locks.length,c2⟩ })):=by show Blk _ _ _;rw [HY2];exact X2.set 3 (by simp) _
 have RY2:Hid (Blk Y2 (w.heap.size+1) (syc Sy.zero Sv.zero)):=RY1.out.aside KB2 (by omega)
 have KY2:Keeps w Y2:=KB2.keeps KY1 (Nat.le_refl _)
 have O12:Hid (Own 43 14 tc Y2 (w.heap.size+2) (.slice a1 s.tasks.length c1) s.tasks):=O1Y.out.butG KB2 (by omega)
 have B1:Hid (∀ q,(Value.slice a1 s.tasks.length c1).ownBlock=some q->q < Y1.heap.size):=fun q hq=>(O1Y.out.ltb q hq).2
 have hz2:Y2.heap.size=w2.heap.size:=by rw [HY2];simp
 have hz12:Hid (Y1.heap.size <= w2.heap.size):=k2.size
 have M2:Hid (Mine Y2 Y1.heap.size w2.heap.size (.slice a2 s.locks.length c2) vs s.locks):=by
  show Mine _ _ _ _ _ _
  refine ML.same fun q hq _ hq2 => ?_
  rw [HY2]
  exact qa2 (by have:=hz1.out;omega)
 obtain ⟨_,x1,x2⟩:=X2
 clear O1Y RY1 BH1 ML KB2 k2 KY1
 have hS0:=h.keeps KY2
 have pl0:=hS0.gc.keeps ((Keeps.refl Y2).alloc (.cells #[] 87))
 have li0:Lies 4 ghc (Y2.alloc (.cells #[] 87)) v.g.a s.ghosts:=((h.keeps KY2).lay.g).keeps ((Keeps.refl _).alloc _)
 rw [HY2] at pl0 li0
 go_wp2_with (at_builtin;(refine qed rfl _ _ 26 rfl w2.heap.size 87 (.agg (ghc Gh.zero)) 4 32 ghc Tryz.underlying26 (by kernel_rfl) rfl (by decide) qb5 qel (.slice (some ⟨w2.heap.size,0,none⟩) 0 0) rfl (Own.fresh (W:=Y2) 87 4 ghc hz2 (by rw [HY2])) (by simp) s.ghosts v.g pl0 li0 h.lay.gl rfl q2.out (by decide) ?_))
 intro v3 w3 O3 g3 f3
 obtain ⟨a3,c3,rfl⟩:=O3.form qb5
 have g3':(Y2.alloc (.cells #[] 87)).grownBy w3 (some w2.heap.size):=by rw [HY2];exact g3
 obtain ⟨X3,KB3,BY3⟩:=qdu hz2 BH2.out (k:=4) (by simp) g3' (.slice a3 s.ghosts.length c3)
 obtain ⟨Y3,HY3⟩:∃ Y,Y=w3.setCell ⟨w.heap.size,4,none⟩ (.slice a3 s.ghosts.length c3):=⟨_,rfl⟩
 rw [<- HY3] at KB3 BY3
 have BH3:Hid (Blk Y3 w.heap.size (syc s { v with t:=⟨a1,s.tasks.length,c1⟩,l:=⟨a2,s.locks.length,c2⟩,g:=⟨a3,s.ghosts.length,c3⟩ })):=BY3
 have RY3:Hid (Blk Y3 (w.heap.size+1) (syc Sy.zero Sv.zero)):=RY2.out.aside KB3 (by omega)
 have KY3:Keeps w Y3:=KB3.keeps KY2 (Nat.le_refl _)
 have hz3:Y3.heap.size=w3.heap.size:=by rw [HY3];simp
 have hz23:Hid (w2.heap.size <= w3.heap.size):=by show _ <= _;have e1:=g3'.size;have e2:=hz2;simp at e1;omega
 have O123:Hid (Own 43 14 tc Y3 (w.heap.size+2) (.slice a1 s.tasks.length c1) s.tasks):=O12.out.butG KB3 (by have:=hz1.out;have:=hz12.out;have:=hz23.out;omega)
 have M3:Hid (Mine Y3 Y1.heap.size w2.heap.size (.slice a2 s.locks.length c2) vs s.locks):=by
  show Mine _ _ _ _ _ _
  refine M2.out.same fun q hq hq1 hq2=>KB3.block q hq2 (by have:=hz1.out;omega)
 have N3:Hid (Own 87 4 ghc Y3 w2.heap.size (.slice a3 s.ghosts.length c3) s.ghosts):=by
  show Own _ _ _ _ _ _ _
  rw [HY3]
  exact O3.butG ((KeepsBut.refl w.heap.size w3).setCell 4 _) (by have:=hz1.out;have:=hz12.out;omega)
 obtain ⟨_,x1,x2⟩:=X3
 clear g3 g3' f3 O3 BY3 BH2 RY2 pl0 li0 hS0
 have hS1:=h.keeps KY3
 have pl1:=hS1.fc.keeps ((Keeps.refl Y3).alloc (.cells #[] 3))
 have li1:Lies 1 ic (Y3.alloc (.cells #[] 3)) v.f.a s.floors:=((h.keeps KY3).lay.f.lies).keeps ((Keeps.refl _).alloc _)
 rw [HY3] at pl1 li1
 go_wp2_with (at_builtin;(refine qed rfl _ _ 27 rfl w3.heap.size 3 (.int .i64 0) 1 8 ic Tryz.underlying27 (by kernel_rfl) rfl (by decide) qaW qcH (.slice (some ⟨w3.heap.size,0,none⟩) 0 0) rfl (Own.fresh (W:=Y3) 3 1 ic hz3 (by rw [HY3])) (by simp) s.floors v.f pl1 li1 h.lay.fl rfl q3.out (by decide) ?_))
 intro v4 w4 O4 g4 f4
 obtain ⟨a4,c4,rfl⟩:=O4.form qaW
 have g4':(Y3.alloc (.cells #[] 3)).grownBy w4 (some w3.heap.size):=by rw [HY3];exact g4
 obtain ⟨X4,KB4,BY4⟩:=qdu hz3 BH3.out (k:=5) (by simp) g4' (.slice a4 s.floors.length c4)
 obtain ⟨Y4,HY4⟩:∃ Y,Y=w4.setCell ⟨w.heap.size,5,none⟩ (.slice a4 s.floors.length c4):=⟨_,rfl⟩
 rw [<- HY4] at KB4 BY4
 have BH4:Hid (Blk Y4 w.heap.size (syc s { v with t:=⟨a1,s.tasks.length,c1⟩,l:=⟨a2,s.locks.length,c2⟩,g:=⟨a3,s.ghosts.length,c3⟩,f:=⟨a4,s.floors.length,c4⟩ })):=BY4
 have RY4:Hid (Blk Y4 (w.heap.size+1) (syc Sy.zero Sv.zero)):=RY3.out.aside KB4 (by omega)
 have KY4:Keeps w Y4:=KB4.keeps KY3 (Nat.le_refl _)
 have hz4:Y4.heap.size=w4.heap.size:=by rw [HY4];simp
 have hz34:Hid (w3.heap.size <= w4.heap.size):=by show _ <= _;have e1:=g4'.size;have e2:=hz3;simp at e1;omega
 have O124:Hid (Own 43 14 tc Y4 (w.heap.size+2) (.slice a1 s.tasks.length c1) s.tasks):=O123.out.butG KB4 (by have:=hz1.out;have:=hz12.out;have:=hz23.out;have:=hz34.out;omega)
 have N34:Hid (Own 87 4 ghc Y4 w2.heap.size (.slice a3 s.ghosts.length c3) s.ghosts):=N3.out.butG KB4 (by have:=hz1.out;have:=hz12.out;have:=hz23.out;have:=hz34.out;omega)
 have M4:Hid (Mine Y4 Y1.heap.size w2.heap.size (.slice a2 s.locks.length c2) vs s.locks):=by
  show Mine _ _ _ _ _ _
  refine M3.out.same fun q hq hq1 hq2=>KB4.block q hq2 (by have:=hz1.out;omega)
 have N4:Hid (Own 3 1 ic Y4 w3.heap.size (.slice a4 s.floors.length c4) s.floors):=by
  show Own _ _ _ _ _ _ _
  rw [HY4]
  exact O4.butG ((KeepsBut.refl w.heap.size w4).setCell 5 _) (by have:=hz1.out;have:=hz12.out;have:=hz23.out;omega)
 obtain ⟨_,x1,x2⟩:=X4
 clear g4 g4' f4 O4 BY4 BH3 RY3 pl1 li1 hS1
 have hS2:=h.keeps KY4
 have pl2:=hS2.rc.keeps ((Keeps.refl Y4).alloc (.cells #[] 104))
 have li2:Lies 3 tnc (Y4.alloc (.cells #[] 104)) v.r.a s.trace:=((h.keeps KY4).lay.r).keeps ((Keeps.refl _).alloc _)
 rw [HY4] at pl2 li2
 go_wp2_with (at_builtin;(refine qed rfl _ _ 28 rfl w4.heap.size 104 (.agg (tnc Tn.zero)) 3 24 tnc Tryz.underlying28 (by kernel_rfl) rfl (by decide) qbO qdT (.slice (some ⟨w4.heap.size,0,none⟩) 0 0) rfl (Own.fresh (W:=Y4) 104 3 tnc hz4 (by rw [HY4])) (by simp) s.trace v.r pl2 li2 h.lay.rl rfl q4.out (by decide) ?_))
 intro v5 w5 O5 g5 f5
 obtain ⟨a5,c5,rfl⟩:=O5.form qbO
 have g5':(Y4.alloc (.cells #[] 104)).grownBy w5 (some w4.heap.size):=by rw [HY4];exact g5
 obtain ⟨X5,KB5,BY5⟩:=qdu hz4 BH4.out (k:=8) (by simp) g5' (.slice a5 s.trace.length c5)
 obtain ⟨Y5,HY5⟩:∃ Y,Y=w5.setCell ⟨w.heap.size,8,none⟩ (.slice a5 s.trace.length c5):=⟨_,rfl⟩
 rw [<- HY5] at KB5 BY5
 have BH5:Hid (Blk Y5 w.heap.size (syc s { v with t:=⟨a1,s.tasks.length,c1⟩,l:=⟨a2,s.locks.length,c2⟩,g:=⟨a3,s.ghosts.length,c3⟩,f:=⟨a4,s.floors.length,c4⟩,r:=⟨a5,s.trace.length,c5⟩ })):=BY5
 have RY5:Hid (Blk Y5 (w.heap.size+1) (syc Sy.zero Sv.zero)):=RY4.out.aside KB5 (by omega)
 have KY5:Keeps w Y5:=KB5.keeps KY4 (Nat.le_refl _)
 have hz5:Y5.heap.size=w5.heap.size:=by rw [HY5];simp
 have hz45:Hid (w4.heap.size <= w5.heap.size):=by show _ <= _;have e1:=g5'.size;have e2:=hz4;simp at e1;omega
 have O125:Hid (Own 43 14 tc Y5 (w.heap.size+2) (.slice a1 s.tasks.length c1) s.tasks):=O124.out.butG KB5 (by have:=hz1.out;have:=hz12.out;have:=hz23.out;have:=hz34.out;have:=hz45.out;omega)
 have N35:Hid (Own 87 4 ghc Y5 w2.heap.size (.slice a3 s.ghosts.length c3) s.ghosts):=N34.out.butG KB5 (by have:=hz1.out;have:=hz12.out;have:=hz23.out;have:=hz34.out;have:=hz45.out;omega)
 have N45:Hid (Own 3 1 ic Y5 w3.heap.size (.slice a4 s.floors.length c4) s.floors):=N4.out.butG KB5 (by have:=hz1.out;have:=hz12.out;have:=hz23.out;have:=hz34.out;have:=hz45.out;omega)
 have M5:Hid (Mine Y5 Y1.heap.size w2.heap.size (.slice a2 s.locks.length c2) vs s.locks):=by
  show Mine _ _ _ _ _ _
  refine M4.out.same fun q hq hq1 hq2=>KB5.block q hq2 (by have:=hz1.out;omega)
 have N5:Hid (Own 104 3 tnc Y5 w4.heap.size (.slice a5 s.trace.length c5) s.trace):=by
  show Own _ _ _ _ _ _ _
  rw [HY5]
  exact O5.butG ((KeepsBut.refl w.heap.size w5).setCell 8 _) (by have:=hz1.out;have:=hz12.out;have:=hz23.out;have:=hz34.out;omega)
 obtain ⟨_,x1,x2⟩:=X5
 clear g5 g5' f5 O5 BY5 BH4 RY4 pl2 li2 hS2
 have RZ:=RY5.out
 rw [HY5] at RZ
 obtain ⟨_,y1,y2⟩:=RZ
 go_wp2
 have D:=RY5.out.putC (syc s ⟨⟨a1,s.tasks.length,c1⟩,⟨a2,s.locks.length,c2⟩,⟨a3,s.ghosts.length,c3⟩,⟨a4,s.floors.length,c4⟩,⟨a5,s.trace.length,c5⟩⟩).toList rfl
 have KZ:=Keeps.putC (b:=w.heap.size+1) (by omega) (syc s ⟨⟨a1,s.tasks.length,c1⟩,⟨a2,s.locks.length,c2⟩,⟨a3,s.ghosts.length,c3⟩,⟨a4,s.floors.length,c4⟩,⟨a5,s.trace.length,c5⟩⟩).toList 0 KY5
 have KBZ:KeepsBut (w.heap.size+1) Y5 (putC Y5 (w.heap.size+1) 0 (syc s ⟨⟨a1,s.tasks.length,c1⟩,⟨a2,s.locks.length,c2⟩,⟨a3,s.ghosts.length,c3⟩,⟨a4,s.floors.length,c4⟩,⟨a5,s.trace.length,c5⟩⟩).toList):=KeepsBut.putOwn _ _ _ (KeepsBut.refl _ _)
 change bodyPost _ _ _ _ _ (putC (w5.setCell ⟨w.heap.size,8,none⟩ (.slice a5 s.trace.length c5)) (w.heap.size+1) 0 (syc s ⟨⟨a1,s.tasks.length,c1⟩,⟨a2,s.locks.length,c2⟩,⟨a3,s.ghosts.length,c3⟩,⟨a4,s.floors.length,c4⟩,⟨a5,s.trace.length,c5⟩⟩).toList)
 rw [<- HY5]
 have e1:=hz1.out
 have e2:=hz12.out
 have e3:=hz23.out
 have e4:=hz34.out
 have e5:=hz45.out
 have e6:=KBZ.size
 have S0:OwnS (putC Y5 (w.heap.size+1) 0 (syc s ⟨⟨a1,s.tasks.length,c1⟩,⟨a2,s.locks.length,c2⟩,⟨a3,s.ghosts.length,c3⟩,⟨a4,s.floors.length,c4⟩,⟨a5,s.trace.length,c5⟩⟩).toList) w.heap.size ⟨⟨a1,s.tasks.length,c1⟩,⟨a2,s.locks.length,c2⟩,⟨a3,s.ghosts.length,c3⟩,⟨a4,s.floors.length,c4⟩,⟨a5,s.trace.length,c5⟩⟩ vs s:=by
  refine ⟨(O125.out.butG KBZ (by omega)).base (by omega),(M5.out.same fun q hq _ hq2=>KBZ.block q hq2 (by omega)).widen (by omega) (by omega),(N35.out.butG KBZ (by omega)).base (by omega),(N45.out.butG KBZ (by omega)).base (by omega),(N5.out.butG KBZ (by omega)).base (by omega),?_⟩
  refine qhz (w.heap.size+2) Y1.heap.size w2.heap.size w3.heap.size w4.heap.size w5.heap.size (fun q hq=>⟨F1.out q hq,B1.out q hq⟩) ?_ (fun q hq => ?_) (fun q hq => ?_) (fun q hq => ?_) (by omega) (by omega) (by omega)
  ·rintro q (hq | ⟨x,hx,hq⟩)
   ·exact ⟨(M5.out.own.ltb q hq).1,M5.out.out q hq⟩
   ·obtain ⟨j,hj⟩:=List.mem_iff_getElem?.1 hx
    exact ⟨(M5.out.blkLt (.inr ⟨x,hx,hq⟩)).1,(M5.out.inn j x q hj hq).1⟩
  ·have:=N3.out.ltb q hq
   exact ⟨this.1,by omega⟩
  ·have:=N4.out.ltb q hq
   exact ⟨this.1,by omega⟩
  ·have:=N5.out.ltb q hq
   exact ⟨this.1,by omega⟩
 generalize putC Y5 (w.heap.size+1) 0 (syc s ⟨⟨a1,s.tasks.length,c1⟩,⟨a2,s.locks.length,c2⟩,⟨a3,s.ghosts.length,c3⟩,⟨a4,s.floors.length,c4⟩,⟨a5,s.trace.length,c5⟩⟩).toList=Z at D KZ S0 ⊢
 exact bodyPost_ret (v := .agg (syc s ⟨⟨a1,s.tasks.length,c1⟩,⟨a2,s.locks.length,c2⟩,⟨a3,s.ghosts.length,c3⟩,⟨a4,s.floors.length,c4⟩,⟨a5,s.trace.length,c5⟩⟩)) (by simp [results,Tryz.results40,go_sem,D.cells]) rfl ⟨⟨⟨a1,s.tasks.length,c1⟩,⟨a2,s.locks.length,c2⟩,⟨a3,s.ghosts.length,c3⟩,⟨a4,s.floors.length,c4⟩,⟨a5,s.trace.length,c5⟩⟩,vs,rfl,S0,KZ⟩
end Go.Proofs.YteagpjlgjfaclaaGreatDoor
namespace Go.Proofs.YteagpjlgjfaclaaGreatDoor
set_option maxRecDepth 100000
open Go.RowKit
attribute [local go_sem] Keeps.refl Keeps.alloc Keeps.drew Keeps.drewN
end Go.Proofs.YteagpjlgjfaclaaGreatDoor
namespace Go.Proofs.YteagpjlgjfaclaaGreatDoor
set_option maxRecDepth 100000
open Go.RowKit
attribute [local go_sem] Keeps.refl Keeps.alloc Keeps.drew Keeps.drewN
theorem qaH {X w':World} {b k:Nat} {C:Array Value} (h:Keeps X w') (B:Blk X b C) (hk:k < C.size) (u:Value):Blk w' b C /\ KeepsBut b X (w'.setCell ⟨b,k,none⟩ u) /\ Blk (w'.setCell ⟨b,k,none⟩ u) b (C.setIfInBounds k u) :=
 ⟨B.keeps h,(KeepsBut.of h).setCell k u,(B.keeps h).set k hk u⟩
end Go.Proofs.YteagpjlgjfaclaaGreatDoor
namespace Go.Proofs.YteagpjlgjfaclaaGreatDoor
set_option maxRecDepth 100000
open Go.RowKit
attribute [local go_sem] Keeps.refl Keeps.alloc Keeps.drew Keeps.drewN
end Go.Proofs.YteagpjlgjfaclaaGreatDoor
namespace Go.Proofs.YteagpjlgjfaclaaGreatDoor
set_option maxRecDepth 100000
open Go.RowKit
attribute [local go_sem] Keeps.refl Keeps.alloc Keeps.drew Keeps.drewN
theorem qef {w:World} {b:Nat}:∀ (L:List Value) (x:World) (k:Nat),w.grownBy x (some b)->w.grownBy (putC x b k L) (some b)
 | [],_,_,h=>h
 | v::r,x,k,h=>qef r _ (k+1) ⟨h.os,h.tape,h.output,Nat.le_trans h.size (by simp),fun q hq hne=>(qa2 (by intro e;subst e;exact hne rfl)).trans (h.block q hq hne)⟩
end Go.Proofs.YteagpjlgjfaclaaGreatDoor
namespace Go.Proofs.YteagpjlgjfaclaaGreatDoor
set_option maxRecDepth 100000
open Go.RowKit
attribute [local go_sem] Keeps.refl Keeps.alloc Keeps.drew Keeps.drewN
structure TurnsB (P:Nat->Prop) (w w':World):Prop where
 os:w'.os=w.os
 tape:w'.tape=w.tape
 output:w'.output=w.output
 size:w.heap.size <= w'.heap.size
 block:∀ b,b < w.heap.size->¬ P b->w'.heap[b]?=w.heap[b]?
theorem TurnsB.refl (P:Nat->Prop) (w:World):TurnsB P w w:=⟨rfl,rfl,rfl,Nat.le_refl _,fun _ _ _=>rfl⟩
theorem TurnsB.trans {P:Nat->Prop} {a b c:World} (h:TurnsB P a b) (k:TurnsB P b c):TurnsB P a c :=
 ⟨k.os.trans h.os,k.tape.trans h.tape,k.output.trans h.output,Nat.le_trans h.size k.size,fun q hq hn=>(k.block q (Nat.lt_of_lt_of_le hq h.size) hn).trans (h.block q hq hn)⟩
theorem TurnsB.mono {P Q:Nat->Prop} {a b:World} (h:TurnsB P a b) (k:∀ q,P q->Q q):TurnsB Q a b:=⟨h.os,h.tape,h.output,h.size,fun q hq hn=>h.block q hq fun hp=>hn (k q hp)⟩
theorem TurnsB.grown {a b:World} {row:Option Nat} (h:a.grownBy b row):TurnsB (fun q=>row=some q) a b:=⟨h.os,h.tape,h.output,h.size,fun q hq hn=>h.block q hq fun e=>hn e.symm⟩
theorem TurnsB.keeps {P:Nat->Prop} {w a b:World} (h:TurnsB P a b) (k:Keeps w a) (hp:∀ q,P q->w.heap.size <= q):Keeps w b :=
 Below.trans k ⟨h.os,h.tape,h.output,h.size,fun i hi=>h.block i (Nat.lt_of_lt_of_le hi k.size) fun hq=>by have:=hp i hq;omega⟩
end Go.Proofs.YteagpjlgjfaclaaGreatDoor
namespace Go.Proofs.YteagpjlgjfaclaaGreatDoor
set_option maxRecDepth 100000
open Go.RowKit
def qdV (s:Sy):Prop:=∀ t∈s.tasks,0 <= t.cpu /\ t.cpu < (s.floors.length:Int)
theorem OwnS.aside {w w':World} {lo:Nat} {v:Sv} {vs:List Lv} {s:Sy} (h:OwnS w lo v vs s) (hz:w.heap.size <= w'.heap.size) (k:∀ i b,qaf v vs i b->w'.heap[b]?=w.heap[b]?):OwnS w' lo v vs s :=
 ⟨h.t.same fun b e=>k 0 b e,(h.l.sameB fun b e=>k 1 b e).widen (Nat.le_refl _) hz,h.g.same fun b e=>k 2 b e,h.f.same fun b e=>k 3 b e,h.r.same fun b e=>k 4 b e,h.ap⟩
theorem OwnS.far {w:World} {lo:Nat} {v:Sv} {vs:List Lv} {s:Sy} (h:OwnS w lo v vs s) {c o:Nat} (hc:∀ i,¬ qaf v vs i c) (x:Value):OwnS (w.setCell ⟨c,o,none⟩ x) lo v vs s :=
 h.aside (by simp) fun i b hb=>qa2 (by intro e;subst e;exact hc i hb)
theorem OwnS.farC {lo:Nat} {v:Sv} {vs:List Lv} {s:Sy} {c:Nat} (hc:∀ i,¬ qaf v vs i c):∀ (L:List Value) {w:World} (k:Nat),OwnS w lo v vs s->OwnS (putC w c k L) lo v vs s
 | [],_,_,h=>h
 | x::r,_,k,h=>OwnS.farC hc r (k+1) (h.far hc x)
theorem OwnS.storeT {w:World} {lo:Nat} {v:Sv} {vs:List Lv} {s:Sy} (h:OwnS w lo v vs s) {rb:Nat} (ha:v.t.a=some ⟨rb,0,none⟩) {k:Nat} (hk:k < s.tasks.length) (x:Tsk) :
  OwnS (putC w rb (k*14) (tc x).toList) lo v vs { s with tasks:=s.tasks.set k x } /\ TurnsB (qaf v vs 0) w (putC w rb (k*14) (tc x).toList):=by
 have hn:=(h.t.row qao).1
 have hv:v.t.val = .slice (some ⟨rb,0,none⟩) s.tasks.length v.t.cap:=by rw [Rw.val,ha,hn]
 have O:=h.t
 rw [hv] at O
 have G:w.grownBy (putC w rb (k*14) (tc x).toList) (some rb):=qef _ _ _ (World.grownBy.refl _ _)
 have ho:v.t.val.ownBlock=some rb:=by rw [hv];rfl
 refine ⟨h.setT G.size (fun b hb hn=>G.block b hb (fun e=>hn (by show v.t.val.ownBlock=some b;rw [ho,e]))) v.t _ ?_ (fun b e => .inl e),?_⟩
 ·have:=O.put qao hk x
  rw [List.length_set] at this
  rw [hv]
  exact this
 ·exact (TurnsB.grown G).mono fun q hq=>by show v.t.val.ownBlock=some q;rw [ho];exact hq
end Go.Proofs.YteagpjlgjfaclaaGreatDoor
namespace Go.Proofs.YteagpjlgjfaclaaGreatDoor
set_option maxRecDepth 100000
open Go.RowKit
abbrev zc:Array Value:=#[.int .i64 0,.int .i64 0,.slice none 0 0,.slice none 0 0,.slice none 0 0,.slice none 0 0,.int .i64 0,.int .i64 0,.slice none 0 0]
structure Goes (w:World) (lo:Nat) (v:Sv) (vs:List Lv) (w':World) (v':Sv) (vs':List Lv) (s':Sy):Prop where
 own:OwnS w' lo v' vs' s'
 turn:TurnsB (fun b=>∃ i,qaf v vs i b) w w'
 old:∀ i b,qaf v' vs' i b->(∃ j,qaf v vs j b)∨w.heap.size <= b
theorem Goes.refl {w:World} {lo:Nat} {v:Sv} {vs:List Lv} {s:Sy} (h:OwnS w lo v vs s):Goes w lo v vs w v vs s:=⟨h,TurnsB.refl _ _,fun i _ hb => .inl ⟨i,hb⟩⟩
theorem Goes.trans {w w' w'':World} {lo:Nat} {v v' v'':Sv} {vs vs' vs'':List Lv} {s' s'':Sy} (h:Goes w lo v vs w' v' vs' s') (k:Goes w' lo v' vs' w'' v'' vs'' s''):Goes w lo v vs w'' v'' vs'' s'':=by
 refine ⟨k.own,⟨k.turn.os.trans h.turn.os,k.turn.tape.trans h.turn.tape,k.turn.output.trans h.turn.output,Nat.le_trans h.turn.size k.turn.size,fun b hb hn => ?_⟩,fun i b hb => ?_⟩
 ·refine (k.turn.block b (Nat.lt_of_lt_of_le hb h.turn.size) ?_).trans (h.turn.block b hb hn)
  rintro ⟨i,hi⟩
  rcases h.old i b hi with h1 | h1
  ·exact hn h1
  ·omega
 ·rcases k.old i b hb with ⟨j,hj⟩ | h1
  ·exact h.old j b hj
  ·exact .inr (Nat.le_trans h.turn.size h1)
theorem Goes.fresh {w w':World} {lo:Nat} {v v':Sv} {vs vs':List Lv} {s':Sy} (h:OwnS w' w.heap.size v' vs' s') (k:Keeps w w') (hl:lo <= w.heap.size):Goes w lo v vs w' v' vs' s' :=
 ⟨h.base hl,⟨k.os,k.tape,k.output,k.size,fun b hb _=>Below.block k b hb⟩,fun _ _ hb => .inr (h.blkLt hb).1⟩
theorem Goes.behind {w w' w'':World} {lo:Nat} {v v':Sv} {vs vs':List Lv} {s':Sy} (h:Goes w lo v vs w' v' vs' s') (k:Keeps w' w''):Goes w lo v vs w'' v' vs' s' :=
 ⟨h.own.keeps k,⟨k.os.trans h.turn.os,k.tape.trans h.turn.tape,k.output.trans h.turn.output,Nat.le_trans h.turn.size k.size,fun b hb hn=>(Below.block k b (Nat.lt_of_lt_of_le hb h.turn.size)).trans (h.turn.block b hb hn)⟩,h.old⟩
theorem Goes.keeps {w0 w w':World} {lo:Nat} {v v':Sv} {vs vs':List Lv} {s s':Sy} (h:Goes w lo v vs w' v' vs' s') (h0:OwnS w lo v vs s) (k:Keeps w0 w) (hl:w0.heap.size <= lo):Keeps w0 w' :=
 h.turn.keeps k fun _ ⟨_,hi⟩=>Nat.le_trans hl (h0.blkLt hi).1
theorem Goes.blk {w w':World} {lo:Nat} {v v':Sv} {vs vs':List Lv} {s':Sy} (h:Goes w lo v vs w' v' vs' s') {b:Nat} {C:Array Value} (hb:Blk w b C) (hn:∀ i,¬ qaf v vs i b):Blk w' b C:=by
 have e:=h.turn.block b hb.lt (fun ⟨i,hi⟩=>hn i hi)
 exact ⟨Nat.lt_of_lt_of_le hb.lt h.turn.size,fun k=>(World.cell?_of_block (w:=w) e).trans (hb.cells k),fun k=>(World.frozen?_of_block (w:=w) e).trans (hb.frozens k)⟩
theorem Goes.far {w w':World} {lo:Nat} {v v':Sv} {vs vs':List Lv} {s':Sy} (h:Goes w lo v vs w' v' vs' s') {b:Nat} (hb:b < w.heap.size) (hn:∀ i,¬ qaf v vs i b):∀ i,¬ qaf v' vs' i b:=by
 intro i hi
 rcases h.old i b hi with ⟨j,hj⟩ | h1
 ·exact hn j hj
 ·omega
structure VarS (w:World) (lo ob:Nat) (v:Sv) (vs:List Lv) (s:Sy):Prop where
 box:Blk w ob (syc s v)
 own:OwnS w lo v vs s
 lob:lo <= ob
 far:∀ i,¬ qaf v vs i ob
theorem VarS.keeps {w w':World} {lo ob:Nat} {v:Sv} {vs:List Lv} {s:Sy} (h:VarS w lo ob v vs s) (k:Keeps w w'):VarS w' lo ob v vs s:=⟨h.box.keeps k,h.own.keeps k,h.lob,h.far⟩
theorem VarS.new {w:World} {lo:Nat} {v:Sv} {vs:List Lv} {s:Sy} (h:OwnS w lo v vs s) (hl:lo <= w.heap.size):VarS (w.alloc (.cells (syc s v) 30)) lo w.heap.size v vs s :=
 ⟨Blk.new _ _ _,h.keeps ((Keeps.refl _).alloc _),hl,fun i hi=>by have:=(h.blkLt hi).2;omega⟩
theorem VarS.put {w w':World} {lo ob:Nat} {v v':Sv} {vs vs':List Lv} {s s':Sy} (h:VarS w lo ob v vs s) (g:Goes w lo v vs w' v' vs' s'):VarS (putC w' ob 0 (syc s' v').toList) lo ob v' vs' s':=by
 have hf:=g.far h.box.lt h.far
 exact ⟨(g.blk h.box h.far).putC (syc s' v').toList rfl,OwnS.farC hf _ _ g.own,h.lob,hf⟩
theorem VarS.task {w:World} {lo ob:Nat} {v:Sv} {vs:List Lv} {s:Sy} (h:VarS w lo ob v vs s) {rb:Nat} (ha:v.t.a=some ⟨rb,0,none⟩) {k:Nat} (hk:k < s.tasks.length) (x:Tsk):VarS (putC w rb (k*14) (tc x).toList) lo ob v vs { s with tasks:=s.tasks.set k x }:=by
 have ho:qaf v vs 0 rb:=by show v.t.val.ownBlock=some rb;rw [Rw.val,ha];rfl
 have hne:rb≠ob:=fun e=>h.far 0 (by rw [<- e];exact ho)
 exact ⟨Blk.farC hne _ _ h.box,(h.own.storeT ha hk x).1,h.lob,h.far⟩
theorem VarS.taskKeeps {w0 w:World} {lo ob:Nat} {v:Sv} {vs:List Lv} {s:Sy} (h:VarS w lo ob v vs s) {rb:Nat} (ha:v.t.a=some ⟨rb,0,none⟩) (k:Nat) (L:List Value) (k0:Keeps w0 w) (hl:w0.heap.size <= lo):Keeps w0 (putC w rb k L):=by
 have ho:qaf v vs 0 rb:=by show v.t.val.ownBlock=some rb;rw [Rw.val,ha];rfl
 exact Keeps.putC (b:=rb) (Nat.le_trans hl (h.own.blkLt ho).1) L k k0
theorem VarS.elsewhere {w:World} {lo ob:Nat} {v:Sv} {vs:List Lv} {s:Sy} (h:VarS w lo ob v vs s) {c:Nat} (hc:∀ i,¬ qaf v vs i c) (hne:c≠ob) (L:List Value) (k:Nat):VarS (putC w c k L) lo ob v vs s :=
 ⟨Blk.farC hne L k h.box,OwnS.farC hc L k h.own,h.lob,h.far⟩
theorem OwnS.tasksAt {w:World} {lo:Nat} {v:Sv} {vs:List Lv} {s:Sy} (h:OwnS w lo v vs s) {k:Nat} (hk:k < s.tasks.length):∃ rb,v.t.a=some ⟨rb,0,none⟩:=by
 obtain ⟨b,cap,e⟩:=h.t.blk (by omega)
 simp only [Rw.val,Value.slice.injEq] at e
 exact ⟨b,e.1⟩
theorem OwnS.taskCells {w:World} {lo:Nat} {v:Sv} {vs:List Lv} {s:Sy} (h:OwnS w lo v vs s) {rb:Nat} (ha:v.t.a=some ⟨rb,0,none⟩) {k:Nat} {t:Tsk} (ht:s.tasks[k]?=some t):(∀ j,j < 14->w.cell? ⟨rb,k*14+j,none⟩=(tc t)[j]?) /\ ∀ j,w.frozen? ⟨rb,j,none⟩=false:=by
 have hn:=(h.t.row qao).1
 have hv:v.t.val = .slice (some ⟨rb,0,none⟩) s.tasks.length v.t.cap:=by rw [Rw.val,ha,hn]
 have O:=h.t
 rw [hv] at O
 exact ⟨fun j hj=>O.cellAt qao ht hj,fun j=>O.frozenAt j⟩
end Go.Proofs.YteagpjlgjfaclaaGreatDoor
namespace Go.Proofs.YteagpjlgjfaclaaGreatDoor
set_option maxRecDepth 100000
open Go.RowKit
theorem Goes.step {w0 w w':World} {lo:Nat} {v0 v v':Sv} {vs0 vs vs':List Lv} {s s':Sy} (h:Goes w0 lo v0 vs0 w v vs s) (own:OwnS w' lo v' vs' s') (t:TurnsB (fun b=>(∃ i,qaf v vs i b)∨w0.heap.size <= b) w w') (old:∀ i b,qaf v' vs' i b->(∃ j,qaf v vs j b)∨w0.heap.size <= b):Goes w0 lo v0 vs0 w' v' vs' s':=by
 refine ⟨own,⟨t.os.trans h.turn.os,t.tape.trans h.turn.tape,t.output.trans h.turn.output,Nat.le_trans h.turn.size t.size,fun b hb hn => ?_⟩,fun i b hb => ?_⟩
 ·refine (t.block b (Nat.lt_of_lt_of_le hb h.turn.size) ?_).trans (h.turn.block b hb hn)
  rintro (⟨i,hi⟩ | h1)
  ·rcases h.old i b hi with h1 | h1
   ·exact hn h1
   ·omega
  ·omega
 ·rcases old i b hb with ⟨j,hj⟩ | h1
  ·exact h.old j b hj
  ·exact .inr h1
theorem TurnsB.putC {P:Nat->Prop} {c:Nat} (hc:P c) (L:List Value) {a w:World} (k:Nat) (h:TurnsB P a w):TurnsB P a (Go.Proofs.YteagpjlgjfaclaaGreatDoor.putC w c k L) :=
 h.trans ((TurnsB.grown (qef L w k (World.grownBy.refl w (some c)))).mono fun q e=>by cases e;exact hc)
theorem TurnsB.of {P:Nat->Prop} {a b:World} (k:Keeps a b):TurnsB P a b:=⟨k.os,k.tape,k.output,k.size,fun q hq _=>Below.block k q hq⟩
structure VarG (w0:World) (lo:Nat) (v0:Sv) (vs0:List Lv) (w:World) (ob:Nat) (v:Sv) (vs:List Lv) (s:Sy):Prop where
 var:VarS w lo ob v vs s
 goes:Goes w0 lo v0 vs0 w v vs s
 new:w0.heap.size <= ob
section
variable {w0 w:World} {lo ob:Nat} {v0 v:Sv} {vs0 vs:List Lv} {s:Sy}
theorem VarG.start {w:World} {lo:Nat} {v:Sv} {vs:List Lv} {s:Sy} (h:OwnS w lo v vs s) (hl:lo <= w.heap.size):VarG w lo v vs (w.alloc (.cells (syc s v) 30)) w.heap.size v vs s :=
 ⟨VarS.new h hl,(Goes.refl h).behind ((Keeps.refl _).alloc _),Nat.le_refl _⟩
theorem VarG.keeps {w':World} (h:VarG w0 lo v0 vs0 w ob v vs s) (k:Keeps w w'):VarG w0 lo v0 vs0 w' ob v vs s:=⟨h.var.keeps k,h.goes.behind k,h.new⟩
theorem VarG.elsewhere (h:VarG w0 lo v0 vs0 w ob v vs s) {c:Nat} (hc:∀ i,¬ qaf v vs i c) (hne:c≠ob) (hn:w0.heap.size <= c) (L:List Value) (k:Nat):VarG w0 lo v0 vs0 (putC w c k L) ob v vs s :=
 ⟨h.var.elsewhere hc hne L k,h.goes.step (OwnS.farC hc L k h.var.own) (TurnsB.putC (.inr hn) L k (TurnsB.refl _ _)) fun i _ hb => .inl ⟨i,hb⟩,h.new⟩
theorem VarG.task (h:VarG w0 lo v0 vs0 w ob v vs s) {rb:Nat} (ha:v.t.a=some ⟨rb,0,none⟩) {k:Nat} (hk:k < s.tasks.length) (x:Tsk):VarG w0 lo v0 vs0 (putC w rb (k*14) (tc x).toList) ob v vs { s with tasks:=s.tasks.set k x }:=by
 have ho:qaf v vs 0 rb:=by show v.t.val.ownBlock=some rb;rw [Rw.val,ha];rfl
 exact ⟨h.var.task ha hk x,h.goes.step (h.var.task ha hk x).own (TurnsB.putC (.inl ⟨0,ho⟩) _ _ (TurnsB.refl _ _)) fun i _ hb => .inl ⟨i,hb⟩,h.new⟩
theorem VarG.num (h:VarG w0 lo v0 vs0 w ob v vs s) (now cpus seq missed:Int) {k:Nat} {x:Value} (e:(syc s v).setIfInBounds k x=syc { s with now:=now,cpus:=cpus,seq:=seq,missed:=missed } v) (hk:k < 9):VarG w0 lo v0 vs0 (w.setCell ⟨ob,k,none⟩ x) ob v vs { s with now:=now,cpus:=cpus,seq:=seq,missed:=missed }:=by
 have B:=h.var.box.set k (by simpa using hk) x
 rw [e] at B
 have O:OwnS (w.setCell ⟨ob,k,none⟩ x) lo v vs { s with now:=now,cpus:=cpus,seq:=seq,missed:=missed }:=(h.var.own.far h.var.far x).nums now cpus seq missed
 exact ⟨⟨B,O,h.var.lob,h.var.far⟩,h.goes.step O (TurnsB.putC (.inr h.new) [x] k (TurnsB.refl _ _)) fun i _ hb => .inl ⟨i,hb⟩,h.new⟩
theorem VarG.trace {w1 w2:World} (h:VarG w0 lo v0 vs0 w ob v vs s) (k:Keeps w w1) {x:Rw} {xs:List Tn} (O:Own 104 3 tnc w2 lo x.val xs) (g:w1.grownBy w2 v.r.val.ownBlock) (f:∀ q,x.val.ownBlock=some q->v.r.val.ownBlock=some q∨w1.heap.size <= q) :
  VarG w0 lo v0 vs0 (w2.setCell ⟨ob,8,none⟩ x.val) ob { v with r:=x } vs { s with trace:=xs }:=by
 have h1:=h.keeps k
 have hr:∀ q,v.r.val.ownBlock=some q->qaf v vs 4 q:=fun q e=>e
 have S2:OwnS w2 lo { v with r:=x } vs { s with trace:=xs }:=h1.var.own.setR g.size (fun b hb hn=>g.block b hb (fun e=>hn e.symm)) x xs O f
 have lt1:=h1.var.box.lt
 have far2:∀ i,¬ qaf { v with r:=x } vs i ob:=by
  intro i hi
  match i,hi with
  | 0,hi=>exact h.var.far 0 hi
  | 1,hi=>exact h.var.far 1 hi
  | 2,hi=>exact h.var.far 2 hi
  | 3,hi=>exact h.var.far 3 hi
  | 4,hi =>
   rcases f ob hi with h2 | h2
   ·exact h.var.far 4 h2
   ·omega
 have B2:Blk w2 ob (syc s v):=h1.var.box.grown g (fun q e e2=>h.var.far 4 (by rw [<- e2];exact hr q e))
 have O3:OwnS (w2.setCell ⟨ob,8,none⟩ x.val) lo { v with r:=x } vs { s with trace:=xs }:=S2.far far2 _
 refine ⟨⟨B2.set 8 (by simp) x.val,O3,h.var.lob,far2⟩,h1.goes.step O3 (TurnsB.putC (.inr h.new) [x.val] 8 ((TurnsB.grown g).mono fun q e => .inl ⟨4,e⟩)) fun i b hb => ?_,h.new⟩
 match i,hb with
 | 0,hb=>exact .inl ⟨0,hb⟩
 | 1,hb=>exact .inl ⟨1,hb⟩
 | 2,hb=>exact .inl ⟨2,hb⟩
 | 3,hb=>exact .inl ⟨3,hb⟩
 | 4,hb =>
  rcases f b hb with h2 | h2
  ·exact .inl ⟨4,h2⟩
  ·exact .inr (Nat.le_trans (Nat.le_trans h.goes.turn.size k.size) h2)
theorem VarG.ghosts {w1 w2:World} (h:VarG w0 lo v0 vs0 w ob v vs s) (k:Keeps w w1) {x:Rw} {xs:List Gh} (O:Own 87 4 ghc w2 lo x.val xs) (g:w1.grownBy w2 v.g.val.ownBlock) (f:∀ q,x.val.ownBlock=some q->v.g.val.ownBlock=some q∨w1.heap.size <= q) :
  VarG w0 lo v0 vs0 (w2.setCell ⟨ob,4,none⟩ x.val) ob { v with g:=x } vs { s with ghosts:=xs }:=by
 have h1:=h.keeps k
 have hr:∀ q,v.g.val.ownBlock=some q->qaf v vs 2 q:=fun q e=>e
 have S2:OwnS w2 lo { v with g:=x } vs { s with ghosts:=xs }:=h1.var.own.setG g.size (fun b hb hn=>g.block b hb (fun e=>hn e.symm)) x xs O f
 have lt1:=h1.var.box.lt
 have far2:∀ i,¬ qaf { v with g:=x } vs i ob:=by
  intro i hi
  match i,hi with
  | 0,hi=>exact h.var.far 0 hi
  | 1,hi=>exact h.var.far 1 hi
  | 2,hi =>
   rcases f ob hi with h2 | h2
   ·exact h.var.far 2 h2
   ·omega
  | 3,hi=>exact h.var.far 3 hi
  | 4,hi=>exact h.var.far 4 hi
 have B2:Blk w2 ob (syc s v):=h1.var.box.grown g (fun q e e2=>h.var.far 2 (by rw [<- e2];exact hr q e))
 have O3:OwnS (w2.setCell ⟨ob,4,none⟩ x.val) lo { v with g:=x } vs { s with ghosts:=xs }:=S2.far far2 _
 refine ⟨⟨B2.set 4 (by simp) x.val,O3,h.var.lob,far2⟩,h1.goes.step O3 (TurnsB.putC (.inr h.new) [x.val] 4 ((TurnsB.grown g).mono fun q e => .inl ⟨2,e⟩)) fun i b hb => ?_,h.new⟩
 match i,hb with
 | 0,hb=>exact .inl ⟨0,hb⟩
 | 1,hb=>exact .inl ⟨1,hb⟩
 | 2,hb =>
  rcases f b hb with h2 | h2
  ·exact .inl ⟨2,h2⟩
  ·exact .inr (Nat.le_trans (Nat.le_trans h.goes.turn.size k.size) h2)
 | 3,hb=>exact .inl ⟨3,hb⟩
 | 4,hb=>exact .inl ⟨4,hb⟩
theorem VarG.tasks {w1 w2:World} (h:VarG w0 lo v0 vs0 w ob v vs s) (k:Keeps w w1) {x:Rw} {xs:List Tsk} (O:Own 43 14 tc w2 lo x.val xs) (g:w1.grownBy w2 v.t.val.ownBlock) (f:∀ q,x.val.ownBlock=some q->v.t.val.ownBlock=some q∨w1.heap.size <= q) :
  VarG w0 lo v0 vs0 (w2.setCell ⟨ob,2,none⟩ x.val) ob { v with t:=x } vs { s with tasks:=xs }:=by
 have h1:=h.keeps k
 have hr:∀ q,v.t.val.ownBlock=some q->qaf v vs 0 q:=fun q e=>e
 have S2:OwnS w2 lo { v with t:=x } vs { s with tasks:=xs }:=h1.var.own.setT g.size (fun b hb hn=>g.block b hb (fun e=>hn e.symm)) x xs O f
 have lt1:=h1.var.box.lt
 have far2:∀ i,¬ qaf { v with t:=x } vs i ob:=by
  intro i hi
  match i,hi with
  | 0,hi =>
   rcases f ob hi with h2 | h2
   ·exact h.var.far 0 h2
   ·omega
  | 1,hi=>exact h.var.far 1 hi
  | 2,hi=>exact h.var.far 2 hi
  | 3,hi=>exact h.var.far 3 hi
  | 4,hi=>exact h.var.far 4 hi
 have B2:Blk w2 ob (syc s v):=h1.var.box.grown g (fun q e e2=>h.var.far 0 (by rw [<- e2];exact hr q e))
 have O3:OwnS (w2.setCell ⟨ob,2,none⟩ x.val) lo { v with t:=x } vs { s with tasks:=xs }:=S2.far far2 _
 refine ⟨⟨B2.set 2 (by simp) x.val,O3,h.var.lob,far2⟩,h1.goes.step O3 (TurnsB.putC (.inr h.new) [x.val] 2 ((TurnsB.grown g).mono fun q e => .inl ⟨0,e⟩)) fun i b hb => ?_,h.new⟩
 match i,hb with
 | 0,hb =>
  rcases f b hb with h2 | h2
  ·exact .inl ⟨0,h2⟩
  ·exact .inr (Nat.le_trans (Nat.le_trans h.goes.turn.size k.size) h2)
 | 1,hb=>exact .inl ⟨1,hb⟩
 | 2,hb=>exact .inl ⟨2,hb⟩
 | 3,hb=>exact .inl ⟨3,hb⟩
 | 4,hb=>exact .inl ⟨4,hb⟩
theorem VarG.floor (h:VarG w0 lo v0 vs0 w ob v vs s) {fb:Nat} (ha:v.f.a=some ⟨fb,0,none⟩) {k:Nat} {y:Int} (hk:s.floors[k]?=some y) (x:Int):VarG w0 lo v0 vs0 (w.setCell ⟨fb,k,none⟩ (.int .i64 x)) ob v vs { s with floors:=s.floors.set k x }:=by
 have ho:qaf v vs 3 fb:=by show v.f.val.ownBlock=some fb;rw [Rw.val,ha];rfl
 have hne:fb≠ob:=fun e=>h.var.far 3 (by rw [<- e];exact ho)
 have hn:=(h.var.own.f.row qaW).1
 have hv:v.f.val = .slice (some ⟨fb,0,none⟩) s.floors.length v.f.cap:=by rw [Rw.val,ha,hn]
 have O:=h.var.own.f
 rw [hv] at O
 have O2:OwnN (w.setCell ⟨fb,k,none⟩ (.int .i64 x)) lo v.f.val (s.floors.set k x):=by
  rw [hv]
  have:=O.setAt qaW (i:=k) (j:=0) (x:=y) (y:=x) (u := .int .i64 x) hk (by omega) rfl
  simpa using this
 have G:w.grownBy (w.setCell ⟨fb,k,none⟩ (.int .i64 x)) (some fb):=qef [.int .i64 x] w k (World.grownBy.refl w (some fb))
 have OS:OwnS (w.setCell ⟨fb,k,none⟩ (.int .i64 x)) lo v vs { s with floors:=s.floors.set k x }:=h.var.own.setF G.size (fun b hb hnn=>G.block b hb (fun e=>hnn (by cases e;exact ho))) v.f _ O2 (fun b e => .inl e)
 exact ⟨⟨h.var.box.far hne _,OS,h.var.lob,h.var.far⟩,h.goes.step OS ((TurnsB.grown G).mono fun q e=>by cases e;exact .inl ⟨3,ho⟩) fun i _ hb => .inl ⟨i,hb⟩,h.new⟩
theorem VarG.put {w':World} {v':Sv} {vs':List Lv} {s':Sy} (h:VarG w0 lo v0 vs0 w ob v vs s) (g:Goes w lo v vs w' v' vs' s'):VarG w0 lo v0 vs0 (putC w' ob 0 (syc s' v').toList) ob v' vs' s':=by
 have V:=h.var.put g
 refine ⟨V,(h.goes.trans g).step V.own (TurnsB.putC (.inr h.new) _ 0 (TurnsB.refl _ _)) fun i _ hb => .inl ⟨i,hb⟩,h.new⟩
theorem VarG.keepsZ {z:World} {s0:Sy} (h:VarG w0 lo v0 vs0 w ob v vs s) (h0:OwnS w0 lo v0 vs0 s0) (k:Keeps z w0) (hl:z.heap.size <= lo):Keeps z w:=h.goes.keeps h0 k hl
theorem OwnS.floorsAt {w:World} {lo:Nat} {v:Sv} {vs:List Lv} {s:Sy} (h:OwnS w lo v vs s) {k:Nat} (hk:k < s.floors.length):∃ fb,v.f.a=some ⟨fb,0,none⟩:=by
 obtain ⟨b,cap,e⟩:=h.f.blk (by omega)
 simp only [Rw.val,Value.slice.injEq] at e
 exact ⟨b,e.1⟩
theorem OwnS.floorCell {w:World} {lo:Nat} {v:Sv} {vs:List Lv} {s:Sy} (h:OwnS w lo v vs s) {fb:Nat} (ha:v.f.a=some ⟨fb,0,none⟩) {k:Nat} {x:Int} (hx:s.floors[k]?=some x):w.cell? ⟨fb,k,none⟩=some (.int .i64 x) /\ (∀ j,w.frozen? ⟨fb,j,none⟩=false) /\ fb < w.heap.size /\ lo <= fb:=by
 have hn:=(h.f.row qaW).1
 have hv:v.f.val = .slice (some ⟨fb,0,none⟩) s.floors.length v.f.cap:=by rw [Rw.val,ha,hn]
 have O:=h.f
 rw [hv] at O
 have h1:=O.cellAt qaW (i:=k) (k:=0) hx (by omega)
 have h2:=O.ltb fb rfl
 exact ⟨by simpa using h1,fun j=>O.frozenAt j,h2.2,h2.1⟩
end
end Go.Proofs.YteagpjlgjfaclaaGreatDoor
