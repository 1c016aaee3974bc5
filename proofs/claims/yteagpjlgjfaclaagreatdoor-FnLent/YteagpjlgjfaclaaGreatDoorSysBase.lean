/-
  Where a system lies: its nine cells, and its five rows.
  A row is copied: append onto an empty row of one's own.
  A system of one's own: one row of it is another one now, th
-/
import Derived.Test.YteagpjlgjfaclaaGreatDoorLoneLeaves
import Derived.Test.YteagpjlgjfaclaaGreatDoorPickSpec
import Derived.Test.YteagpjlgjfaclaaGreatDoorPickPure
import Derived.Test.YteagpjlgjfaclaaGreatDoorTaskPut
import Derived.Test.YteagpjlgjfaclaaGreatDoorLockSpec2
namespace Go.Proofs.YteagpjlgjfaclaaGreatDoor
open Go.RowKit
structure Rw where
 a:Option Addr
 n:Nat
 cap:Nat
abbrev Rw.val (x:Rw):Value := .slice x.a x.n x.cap
structure Sv where
 t:Rw
 l:Rw
 g:Rw
 f:Rw
 r:Rw
abbrev ae (s:Sy) (v:Sv):Array Value:=#[.int .i64 s.now,.int .i64 s.az,.slice v.t.a v.t.n v.t.cap,.slice v.l.a v.l.n v.l.cap,.slice v.g.a v.g.n v.g.cap,.slice v.f.a v.f.n v.f.cap,.int .i64 s.seq,.int .i64 s.missed,.slice v.r.a v.r.n v.r.cap]
def bV (s:Sy):Nat:=s.tasks.length+bT s.af+s.ah.length+s.ax.length+s.trace.length
structure iz (p:Bool) (w:World) (v:Sv) (s:Sy):Prop where
 tl:s.tasks.length=v.t.n
 tm:v.t.n <= maxLen
 t:Ts w v.t.a s.tasks
 ll:s.af.length=v.l.n
 lm:v.l.n <= maxLen
 l:dU p w v.l.a s.af
 gl:s.ah.length=v.g.n
 gm:v.g.n <= maxLen
 g:Gs w v.g.a s.ah
 fl:s.ax.length=v.f.n
 fm:v.f.n <= maxLen
 f:Ns w v.f.a s.ax
 rl:s.trace.length=v.r.n
 rm:v.r.n <= maxLen
 r:Rs w v.r.a s.trace
theorem iz.keeps {p:Bool} {w w':World} {v:Sv} {s:Sy} (h:iz p w v s) (k:aa w w'):iz p w' v s :=
 ⟨h.tl,h.tm,h.t.keeps k,h.ll,h.lm,h.l.keeps k,h.gl,h.gm,h.g.keeps k,h.fl,h.fm,h.f.keeps k,h.rl,h.rm,h.r.keeps k⟩
structure aA (w:World) (v:Sv) (s:Sy):Prop where
 lay:iz true w v s
 tc:Plain w v.t.a v.t.n v.t.cap
 lc:Plain w v.l.a v.l.n v.l.cap
 gc:Plain w v.g.a v.g.n v.g.cap
 fc:Plain w v.f.a v.f.n v.f.cap
 rc:Plain w v.r.a v.r.n v.r.cap
 size:bV s <= 2000000
theorem aA.keeps {w w':World} {v:Sv} {s:Sy} (h:aA w v s) (k:aa w w'):aA w' v s:=⟨h.lay.keeps k,h.tc.keeps k,h.lc.keeps k,h.gc.keeps k,h.fc.keeps k,h.rc.keeps k,h.size⟩
theorem aA.gM {w:World} {v:Sv} {s:Sy} (h:aA w v s):fk w v.t.a v.t.n v.t.cap s.tasks:=⟨h.lay.tl,by rw [h.lay.tl];exact h.lay.tm,h.lay.t⟩
theorem aA.gL {w:World} {v:Sv} {s:Sy} (h:aA w v s):On w v.l.a v.l.n v.l.cap s.af:=⟨h.lay.ll,by have:=h.size;unfold bV at this;omega,h.lay.l,h.lc⟩
def bp (v:Sv) (vs:List Lv):Nat->Nat->Prop
 | 0,b=>v.t.val.ownBlock=some b
 | 1,b=>v.l.val.ownBlock=some b∨∃ x∈vs,x.row.ownBlock=some b
 | 2,b=>v.g.val.ownBlock=some b
 | 3,b=>v.f.val.ownBlock=some b
 | 4,b=>v.r.val.ownBlock=some b
 | _,_=>False
structure ay (w:World) (lo:Nat) (v:Sv) (vs:List Lv) (s:Sy):Prop where
 t:Own 43 14 tc w lo v.t.val s.tasks
 l:Mine w lo w.heap.size v.l.val vs s.af
 g:Own 87 4 dM w lo v.g.val s.ah
 f:aS w lo v.f.val s.ax
 r:Own 104 3 eC w lo v.r.val s.trace
 ap:∀ i j b,bp v vs i b->bp v vs j b->i=j
theorem ay.keeps {w w':World} {lo:Nat} {v:Sv} {vs:List Lv} {s:Sy} (h:ay w lo v vs s) (k:aa w w'):ay w' lo v vs s :=
 ⟨h.t.keeps k,(h.l.keeps k).widen (Nat.le_refl _) k.size,h.g.keeps k,h.f.keeps k,h.r.keeps k,h.ap⟩
theorem ay.base {w:World} {lo nI:Nat} {v:Sv} {vs:List Lv} {s:Sy} (h:ay w lo v vs s) (k:nI <= lo):ay w nI v vs s :=
 ⟨h.t.base k,h.l.widen k (Nat.le_refl _),h.g.base k,h.f.base k,h.r.base k,h.ap⟩
theorem Plain.le {w:World} {a:Option Addr} {n cap:Nat} (h:Plain w a n cap):n <= cap:=by
 rcases h with ⟨-,rfl,rfl⟩ | ⟨_,_,_,_,h⟩
 ·exact Nat.le_refl _
 ·exact h
theorem Own.row {α:Type} {e:TypeId} {sz:Nat} {c:α->Array Value} {w:World} {base:Nat} {x:Rw} {xs:List α} (h:Own e sz c w base x.val xs) (hc:∀ x,(c x).size=sz):xs.length=x.n /\ cH sz c w x.a xs /\ Plain w x.a x.n x.cap /\ x.n <= maxLen:=by
 have hb:=h.cD
 have hp:Plain w x.a x.n x.cap:=by
  obtain ⟨_,⟨e,_⟩ | ⟨b,cap,cur,e,_,_,hl,_⟩⟩:=h
  ·simp only [Rw.val,Value.slice.injEq] at e
   exact .inl e
  ·simp only [Rw.val,Value.slice.injEq] at e
   obtain ⟨e1,e2,e3⟩:=e
   refine .inr ⟨b,0,e1,(hb b ?_).2,?_⟩
   ·show (Value.slice x.a x.n x.cap).ownBlock=_
    rw [e1];rfl
   ·rw [e2,e3];exact hl
 obtain ⟨a,cap,e,l,h1,h2⟩:=h.slice hc
 simp only [Rw.val,Value.slice.injEq] at e
 obtain ⟨e1,e2,e3⟩:=e
 refine ⟨e2.symm,by rw [e1];exact l,hp,?_⟩
 rw [e2];omega
theorem ay.on {w:World} {lo:Nat} {v:Sv} {vs:List Lv} {s:Sy} (h:ay w lo v vs s) (hs:bV s <= 2000000):aA w v s:=by
 obtain ⟨t1,t2,t3,t4⟩:=h.t.row dC
 obtain ⟨g1,g2,g3,g4⟩:=h.g.row jS
 obtain ⟨f1,f2,f3,f4⟩:=h.f.row fW
 obtain ⟨r1,r2,r3,r4⟩:=h.r.row jc
 obtain ⟨a,cap,e,l1,l2,l3⟩:=h.l.args
 simp only [Rw.val,Value.slice.injEq] at e
 obtain ⟨e1,e2,e3⟩:=e
 rw [<- e1] at l1 l2
 rw [<- e2] at l2 l3
 rw [<- e3] at l2
 exact ⟨⟨t1,t4,t2,e2.symm,l3,l1,g1,g4,g2,f1,f4,Ns.jG f2,r1,r4,r2⟩,t3,l2,g3,f3,r3,hs⟩
theorem AM {v:Sv} {vs:List Lv} (b0 b1 b2 b3 b4 b5:Nat) (h0:∀ b,v.t.val.ownBlock=some b->b0 <= b /\ b < b1) (h1:∀ b,(v.l.val.ownBlock=some b∨∃ x∈vs,x.row.ownBlock=some b)->b1 <= b /\ b < b2)
  (h2:∀ b,v.g.val.ownBlock=some b->b2 <= b /\ b < b3) (h3:∀ b,v.f.val.ownBlock=some b->b3 <= b /\ b < b4) (h4:∀ b,v.r.val.ownBlock=some b->b4 <= b /\ b < b5) (l2:b1 <= b2) (l3:b2 <= b3) (l4:b3 <= b4) :
  ∀ i j b,bp v vs i b->bp v vs j b->i=j:=by
 have key:∀ i b,bp v vs i b->(i=0 /\ b0 <= b /\ b < b1)∨(i=1 /\ b1 <= b /\ b < b2)∨(i=2 /\ b2 <= b /\ b < b3)∨(i=3 /\ b3 <= b /\ b < b4)∨(i=4 /\ b4 <= b /\ b < b5):=by
  intro i b h
  match i,h with
  | 0,h=>exact .inl ⟨rfl,h0 b h⟩
  | 1,h=>exact .inr (.inl ⟨rfl,h1 b h⟩)
  | 2,h=>exact .inr (.inr (.inl ⟨rfl,h2 b h⟩))
  | 3,h=>exact .inr (.inr (.inr (.inl ⟨rfl,h3 b h⟩)))
  | 4,h=>exact .inr (.inr (.inr (.inr ⟨rfl,h4 b h⟩)))
  | n+5,h=>exact h.elim
 intro i j b hi hj
 have:=key i b hi
 have:=key j b hj
 omega
theorem ql {α:Type} {P:Program} {w:World} {ops:Array Oper} {rest:List Oper} {o:Oper} {a:Act} {Q:Exit->Act->World->Prop} (hgd:o.guard=none) (s x:Operand) (t:TypeId)
  (hop:o.op = .call { callee := .builtin .append,args:=#[s,x],argTypes:=#[t,t] })
  (base:Nat) (e:TypeId) (z:Value) (sz bytes:Nat) (c:α->Array Value) (ht:P.underlying t=some (.slice e)) (hinfo:(P.info? e).map (fun i=>(i.zero,i.size,i.bytes))=some (some z,sz,bytes))
  (hzs:z.cells.size=sz) (hsz:0 < sz) (hc:∀ x,(c x).size=sz) (h1:∀ x,∀ u∈(c x).toList,u.oneCell'=true)
  (v:Value) (hs:a.eval s=v) (hown:Own e sz c w base v []) (hbase:base <= w.heap.size)
  (ys:List α) (r:Rw) (hpl:Plain w r.a r.n r.cap) (hl:cH sz c w r.a ys) (hn:ys.length=r.n) (hx:a.eval x = .slice r.a r.n r.cap)
  (h63:ys.length <= 2097152) (hbytes:bytes <= 1000)
  (h:∀ v' w',Own e sz c w' base v' ys->w.grownBy w' v.ownBlock->(∀ k,v'.ownBlock=some k->v.ownBlock=some k∨k=w.heap.size)->wpList P ops Q rest (a.put o.dst v') w'):wpList P ops Q (o::rest) a w:=by
 refine wpList_plain hgd fun K hK => ?_
 rcases hpl with ⟨e1,e2,e3⟩ | ⟨b,off,e1,hb,hle⟩
 ·have hy:ys=[]:=List.eq_nil_of_length_eq_zero (hn.trans e2)
  subst hy
  rw [e1,e2,e3] at hx
  obtain ⟨i,hi,hzz⟩:=Option.map_eq_some_iff.1 hinfo
  have hrun:=run_append_owned_none (P:=P) w base t o.type e i sz ht hi v ([]:List α).length (bD c ([]:List α)) hown
  unfold Oper.wp
  simp [execOp,hop,resolve,invoke,builtin,hs,hx,hrun,Result.andThen]
  exact hK _ _ (h v w hown (World.grownBy.refl w v.ownBlock) fun k e => .inl e)
 ·rw [e1,<- hn] at hx
  rw [e1] at hl
  have hb2:(0+ys.length)*bytes <= 140737488355328:=by
   have:ys.length*bytes <= 2097152*1000:=Nat.mul_le_mul h63 hbytes
   rw [Nat.zero_add];omega
  obtain ⟨v',w',hrun,r1,r2,r3⟩:=s9 (P:=P) w base t o.type e z sz bytes c ht hinfo hzs hsz hc h1 v [] hown hbase ys b off r.cap hl (by simp [maxLen];omega) hb2
  unfold Oper.wp
  simp [execOp,hop,resolve,invoke,builtin,hs,hx,hrun,Result.andThen]
  exact hK _ _ (h v' w' (by simpa using r1) r2 r3)
def nS (v:Value) (vs:List Lv) (b:Nat):Prop:=v.ownBlock=some b∨∃ x∈vs,x.row.ownBlock=some b
theorem Mine.iU {w w':World} {lo hi:Nat} {v:Value} {vs:List Lv} {ls:List Lk} (h:Mine w lo hi v vs ls) (k:∀ b,nS v vs b->w'.heap[b]?=w.heap[b]?):Mine w' lo hi v vs ls :=
 ⟨h.len,h.own.same fun b e=>k b (.inl e),h.out,fun i x l hx hl=>⟨(h.rows i x l hx hl).1,(h.rows i x l hx hl).2.same fun b e=>k b (.inr ⟨x,List.mem_of_getElem? hx,e⟩)⟩,h.gj,h.apart⟩
theorem Mine.aG {w:World} {lo hi:Nat} {v:Value} {vs:List Lv} {ls:List Lk} (h:Mine w lo hi v vs ls) {b:Nat} (hb:nS v vs b):lo <= b /\ b < w.heap.size:=by
 rcases hb with e | ⟨x,hx,e⟩
 ·exact h.own.cD b e
 ·obtain ⟨i,hi⟩:=List.mem_iff_getElem?.1 hx
  obtain ⟨l,hl⟩:=bW (xs:=ls) (k:=i) (by rw [<- h.len];exact da hi)
  exact (h.rows i x l hi hl).2.cD b e
theorem ay.aG {w:World} {lo:Nat} {v:Sv} {vs:List Lv} {s:Sy} (h:ay w lo v vs s) {i b:Nat} (hb:bp v vs i b):lo <= b /\ b < w.heap.size:=by
 match i,hb with
 | 0,hb=>exact h.t.cD b hb
 | 1,hb=>exact h.l.aG hb
 | 2,hb=>exact h.g.cD b hb
 | 3,hb=>exact h.f.cD b hb
 | 4,hb=>exact h.r.cD b hb
theorem ay.others {w w':World} {lo:Nat} {v:Sv} {vs:List Lv} {s:Sy} (h:ay w lo v vs s) (i:Nat) (k:∀ b,b < w.heap.size->¬ bp v vs i b->w'.heap[b]?=w.heap[b]?) {j b:Nat} (hj:j≠i) (hb:bp v vs j b):w'.heap[b]?=w.heap[b]? :=
 k b (h.aG hb).2 fun hi=>hj (h.ap j i b hb hi)
theorem nR {w:World} {lo:Nat} {v v':Sv} {vs vs':List Lv} {s:Sy} (h:ay w lo v vs s) (i:Nat) (hi:∀ b,bp v' vs' i b->bp v vs i b∨w.heap.size <= b) (ho:∀ j b,j≠i->bp v' vs' j b->bp v vs j b) :
  ∀ j k b,bp v' vs' j b->bp v' vs' k b->j=k:=by
 intro j k b hj hk
 by_cases ej:j=i
 ·by_cases ek:k=i
  ·omega
  ·have h2:=ho k b ek hk
   rw [ej] at hj
   rcases hi b hj with h1 | h1
   ·rw [ej];exact h.ap i k b h1 h2
   ·have:=(h.aG h2).2;omega
 ·have h1:=ho j b ej hj
  by_cases ek:k=i
  ·rw [ek] at hk
   rcases hi b hk with h2 | h2
   ·rw [ek];exact h.ap j i b h1 h2
   ·have:=(h.aG h1).2;omega
  ·exact h.ap j k b h1 (ho k b ek hk)
theorem ay.mj {w w':World} {lo:Nat} {v:Sv} {vs:List Lv} {s:Sy} (h:ay w lo v vs s) (hz:w.heap.size <= w'.heap.size) (k:∀ b,b < w.heap.size->¬ bp v vs 0 b->w'.heap[b]?=w.heap[b]?) (x:Rw) (xs:List ag) (O:Own 43 14 tc w' lo x.val xs) (hx:∀ b,x.val.ownBlock=some b->v.t.val.ownBlock=some b∨w.heap.size <= b) :
  ay w' lo { v with t:=x } vs { s with tasks:=xs } :=
 ⟨O,(h.l.iU fun b e=>h.others 0 k (j:=1) (by decide) e).widen (Nat.le_refl _) hz,h.g.same fun b e=>h.others 0 k (j:=2) (by decide) e,h.f.same fun b e=>h.others 0 k (j:=3) (by decide) e,h.r.same fun b e=>h.others 0 k (j:=4) (by decide) e,nR h 0 hx (by
   intro j b hj hb
   match j,hb with
   | 0,hb=>exact absurd rfl hj
   | 1,hb=>exact hb
   | 2,hb=>exact hb
   | 3,hb=>exact hb
   | 4,hb=>exact hb)⟩
theorem ay.qz {w w':World} {lo:Nat} {v:Sv} {vs:List Lv} {s:Sy} (h:ay w lo v vs s) (hz:w.heap.size <= w'.heap.size) (k:∀ b,b < w.heap.size->¬ bp v vs 2 b->w'.heap[b]?=w.heap[b]?) (x:Rw) (xs:List Gh) (O:Own 87 4 dM w' lo x.val xs) (hx:∀ b,x.val.ownBlock=some b->v.g.val.ownBlock=some b∨w.heap.size <= b) :
  ay w' lo { v with g:=x } vs { s with ah:=xs } :=
 ⟨h.t.same fun b e=>h.others 2 k (j:=0) (by decide) e,(h.l.iU fun b e=>h.others 2 k (j:=1) (by decide) e).widen (Nat.le_refl _) hz,O,h.f.same fun b e=>h.others 2 k (j:=3) (by decide) e,h.r.same fun b e=>h.others 2 k (j:=4) (by decide) e,nR h 2 hx (by
   intro j b hj hb
   match j,hb with
   | 0,hb=>exact hb
   | 1,hb=>exact hb
   | 2,hb=>exact absurd rfl hj
   | 3,hb=>exact hb
   | 4,hb=>exact hb)⟩
theorem ay.qC {w w':World} {lo:Nat} {v:Sv} {vs:List Lv} {s:Sy} (h:ay w lo v vs s) (hz:w.heap.size <= w'.heap.size) (k:∀ b,b < w.heap.size->¬ bp v vs 3 b->w'.heap[b]?=w.heap[b]?) (x:Rw) (xs:List Int) (O:aS w' lo x.val xs) (hx:∀ b,x.val.ownBlock=some b->v.f.val.ownBlock=some b∨w.heap.size <= b) :
  ay w' lo { v with f:=x } vs { s with ax:=xs } :=
 ⟨h.t.same fun b e=>h.others 3 k (j:=0) (by decide) e,(h.l.iU fun b e=>h.others 3 k (j:=1) (by decide) e).widen (Nat.le_refl _) hz,h.g.same fun b e=>h.others 3 k (j:=2) (by decide) e,O,h.r.same fun b e=>h.others 3 k (j:=4) (by decide) e,nR h 3 hx (by
   intro j b hj hb
   match j,hb with
   | 0,hb=>exact hb
   | 1,hb=>exact hb
   | 2,hb=>exact hb
   | 3,hb=>exact absurd rfl hj
   | 4,hb=>exact hb)⟩
theorem ay.qA {w w':World} {lo:Nat} {v:Sv} {vs:List Lv} {s:Sy} (h:ay w lo v vs s) (hz:w.heap.size <= w'.heap.size) (k:∀ b,b < w.heap.size->¬ bp v vs 4 b->w'.heap[b]?=w.heap[b]?) (x:Rw) (xs:List Tn) (O:Own 104 3 eC w' lo x.val xs) (hx:∀ b,x.val.ownBlock=some b->v.r.val.ownBlock=some b∨w.heap.size <= b) :
  ay w' lo { v with r:=x } vs { s with trace:=xs } :=
 ⟨h.t.same fun b e=>h.others 4 k (j:=0) (by decide) e,(h.l.iU fun b e=>h.others 4 k (j:=1) (by decide) e).widen (Nat.le_refl _) hz,h.g.same fun b e=>h.others 4 k (j:=2) (by decide) e,h.f.same fun b e=>h.others 4 k (j:=3) (by decide) e,O,nR h 4 hx (by
   intro j b hj hb
   match j,hb with
   | 0,hb=>exact hb
   | 1,hb=>exact hb
   | 2,hb=>exact hb
   | 3,hb=>exact hb
   | 4,hb=>exact absurd rfl hj)⟩
theorem ay.cJ {w w':World} {lo:Nat} {v:Sv} {vs vs':List Lv} {s:Sy} (h:ay w lo v vs s) (k:∀ b,b < w.heap.size->¬ bp v vs 1 b->w'.heap[b]?=w.heap[b]?) (x:Rw) (ls:List Lk) (L:Mine w' lo w'.heap.size x.val vs' ls) (hx:∀ b,nS x.val vs' b->nS v.l.val vs b∨w.heap.size <= b) :
  ay w' lo { v with l:=x } vs' { s with af:=ls } :=
 ⟨h.t.same fun b e=>h.others 1 k (j:=0) (by decide) e,L,h.g.same fun b e=>h.others 1 k (j:=2) (by decide) e,h.f.same fun b e=>h.others 1 k (j:=3) (by decide) e,h.r.same fun b e=>h.others 1 k (j:=4) (by decide) e,nR h 1 hx (by
   intro j b hj hb
   match j,hb with
   | 0,hb=>exact hb
   | 1,hb=>exact absurd rfl hj
   | 2,hb=>exact hb
   | 3,hb=>exact hb
   | 4,hb=>exact hb)⟩
theorem ay.nums {w:World} {lo:Nat} {v:Sv} {vs:List Lv} {s:Sy} (h:ay w lo v vs s) (now az seq missed:Int):ay w lo v vs { s with now:=now,az:=az,seq:=seq,missed:=missed }:=⟨h.t,h.l,h.g,h.f,h.r,h.ap⟩
end Go.Proofs.YteagpjlgjfaclaaGreatDoor
