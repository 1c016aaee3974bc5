/-
  Where a system lies: its nine cells, and its five rows.
  A system of one's own: one row of it is another one now, th
  A row is copied: append onto an empty row of one's own.
  Drawn tasks: the contracts of the model's l3DrawList and Dr
-/
import Derived.Test.YteagpjlgjfaclaaGreatDoorFairList
import Derived.Test.YteagpjlgjfaclaaGreatDoorPickSpec
import Derived.Test.YteagpjlgjfaclaaGreatDoorSumSpec
import Derived.Test.YteagpjlgjfaclaaGreatDoorTaskPut
import Derived.Test.YteagpjlgjfaclaaGreatDoorLockCopy
import Derived.Test.YteagpjlgjfaclaaGreatDoorDrawTask
import Derived.Test.YteagpjlgjfaclaaGreatDoorCur
import Derived.Test.YteagpjlgjfaclaaGreatDoorPlain1
namespace Go.Proofs.YteagpjlgjfaclaaGreatDoor
set_option maxRecDepth 100000
open Go.RowKit
structure Rw where
 a:Option Addr
 n:Nat
 cap:Nat
abbrev Rw.val (x:Rw):Value := .slice x.a x.n x.cap
structure Sv where
 t:Rw
 l:Rw
 g:Rw
 f:Rw
 r:Rw
abbrev ae (s:Sy) (v:Sv):Array Value:=#[.int .i64 s.now,.int .i64 s.az,.slice v.t.a v.t.n v.t.cap,.slice v.l.a v.l.n v.l.cap,.slice v.g.a v.g.n v.g.cap,.slice v.f.a v.f.n v.f.cap,.int .i64 s.seq,.int .i64 s.missed,.slice v.r.a v.r.n v.r.cap]
def bE (s:Sy):Nat:=s.tasks.length+bR s.ak+s.af.length+s.ax.length+s.trace.length
structure gM (p:Bool) (w:World) (v:Sv) (s:Sy):Prop where
 tl:s.tasks.length=v.t.n
 tm:v.t.n <= maxLen
 t:Ts w v.t.a s.tasks
 ll:s.ak.length=v.l.n
 lm:v.l.n <= maxLen
 l:dL p w v.l.a s.ak
 gl:s.af.length=v.g.n
 gm:v.g.n <= maxLen
 g:Gs w v.g.a s.af
 fl:s.ax.length=v.f.n
 fm:v.f.n <= maxLen
 f:Ns w v.f.a s.ax
 rl:s.trace.length=v.r.n
 rm:v.r.n <= maxLen
 r:Rs w v.r.a s.trace
theorem gM.keeps {p:Bool} {w w':World} {v:Sv} {s:Sy} (h:gM p w v s) (k:aa w w'):gM p w' v s :=
 ⟨h.tl,h.tm,h.t.keeps k,h.ll,h.lm,h.l.keeps k,h.gl,h.gm,h.g.keeps k,h.fl,h.fm,h.f.keeps k,h.rl,h.rm,h.r.keeps k⟩
structure aA (w:World) (v:Sv) (s:Sy):Prop where
 lay:gM true w v s
 tc:Plain w v.t.a v.t.n v.t.cap
 lc:Plain w v.l.a v.l.n v.l.cap
 gc:Plain w v.g.a v.g.n v.g.cap
 fc:Plain w v.f.a v.f.n v.f.cap
 rc:Plain w v.r.a v.r.n v.r.cap
 size:bE s <= 2000000
theorem aA.keeps {w w':World} {v:Sv} {s:Sy} (h:aA w v s) (k:aa w w'):aA w' v s:=⟨h.lay.keeps k,h.tc.keeps k,h.lc.keeps k,h.gc.keeps k,h.fc.keeps k,h.rc.keeps k,h.size⟩
theorem aA.gF {w:World} {v:Sv} {s:Sy} (h:aA w v s):fM w v.t.a v.t.n v.t.cap s.tasks:=⟨h.lay.tl,by rw [h.lay.tl];exact h.lay.tm,h.lay.t⟩
theorem aA.gx {w:World} {v:Sv} {s:Sy} (h:aA w v s):On w v.l.a v.l.n v.l.cap s.ak:=⟨h.lay.ll,by have:=h.size;unfold bE at this;omega,h.lay.l,h.lc⟩
def aX (v:Sv) (vs:List Lv):Nat->Nat->Prop
 | 0,b=>v.t.val.ownBlock=some b
 | 1,b=>v.l.val.ownBlock=some b∨∃ x∈vs,x.row.ownBlock=some b
 | 2,b=>v.g.val.ownBlock=some b
 | 3,b=>v.f.val.ownBlock=some b
 | 4,b=>v.r.val.ownBlock=some b
 | _,_=>False
structure ay (w:World) (lo:Nat) (v:Sv) (vs:List Lv) (s:Sy):Prop where
 t:Own 43 14 tc w lo v.t.val s.tasks
 l:Mine w lo w.heap.size v.l.val vs s.ak
 g:Own 87 4 cP w lo v.g.val s.af
 f:aS w lo v.f.val s.ax
 r:Own 104 3 dX w lo v.r.val s.trace
 ap:∀ i j b,aX v vs i b->aX v vs j b->i=j
theorem ay.keeps {w w':World} {lo:Nat} {v:Sv} {vs:List Lv} {s:Sy} (h:ay w lo v vs s) (k:aa w w'):ay w' lo v vs s :=
 ⟨h.t.keeps k,(h.l.keeps k).widen (Nat.le_refl _) k.size,h.g.keeps k,h.f.keeps k,h.r.keeps k,h.ap⟩
theorem ay.base {w:World} {lo lZ:Nat} {v:Sv} {vs:List Lv} {s:Sy} (h:ay w lo v vs s) (k:lZ <= lo):ay w lZ v vs s :=
 ⟨h.t.base k,h.l.widen k (Nat.le_refl _),h.g.base k,h.f.base k,h.r.base k,h.ap⟩
theorem Plain.le {w:World} {a:Option Addr} {n cap:Nat} (h:Plain w a n cap):n <= cap:=by
 rcases h with ⟨-,rfl,rfl⟩ | ⟨_,_,_,_,h⟩
 ·exact Nat.le_refl _
 ·exact h
theorem Own.row {α:Type} {e:TypeId} {sz:Nat} {c:α->Array Value} {w:World} {base:Nat} {x:Rw} {xs:List α} (h:Own e sz c w base x.val xs) (hc:∀ x,(c x).size=sz):xs.length=x.n /\ cm sz c w x.a xs /\ Plain w x.a x.n x.cap /\ x.n <= maxLen:=by
 have hb:=h.cr
 have hp:Plain w x.a x.n x.cap:=by
  obtain ⟨_,⟨e,_⟩ | ⟨b,cap,cur,e,_,_,hl,_⟩⟩:=h
  ·simp only [Rw.val,Value.slice.injEq] at e
   exact .inl e
  ·simp only [Rw.val,Value.slice.injEq] at e
   obtain ⟨e1,e2,e3⟩:=e
   refine .inr ⟨b,0,e1,(hb b ?_).2,?_⟩
   ·show (Value.slice x.a x.n x.cap).ownBlock=_
    rw [e1];rfl
   ·rw [e2,e3];exact hl
 obtain ⟨a,cap,e,l,h1,h2⟩:=h.slice hc
 simp only [Rw.val,Value.slice.injEq] at e
 obtain ⟨e1,e2,e3⟩:=e
 refine ⟨e2.symm,by rw [e1];exact l,hp,?_⟩
 rw [e2];omega
theorem ay.on {w:World} {lo:Nat} {v:Sv} {vs:List Lv} {s:Sy} (h:ay w lo v vs s) (hs:bE s <= 2000000):aA w v s:=by
 obtain ⟨t1,t2,t3,t4⟩:=h.t.row cF
 obtain ⟨g1,g2,g3,g4⟩:=h.g.row ia
 obtain ⟨f1,f2,f3,f4⟩:=h.f.row fq
 obtain ⟨r1,r2,r3,r4⟩:=h.r.row iv
 obtain ⟨a,cap,e,l1,l2,l3⟩:=h.l.args
 simp only [Rw.val,Value.slice.injEq] at e
 obtain ⟨e1,e2,e3⟩:=e
 rw [<- e1] at l1 l2
 rw [<- e2] at l2 l3
 rw [<- e3] at l2
 exact ⟨⟨t1,t4,t2,e2.symm,l3,l1,g1,g4,g2,f1,f4,Ns.iU f2,r1,r4,r2⟩,t3,l2,g3,f3,r3,hs⟩
theorem x6 {v:Sv} {vs:List Lv} (b0 b1 b2 b3 b4 b5:Nat) (h0:∀ b,v.t.val.ownBlock=some b->b0 <= b /\ b < b1) (h1:∀ b,(v.l.val.ownBlock=some b∨∃ x∈vs,x.row.ownBlock=some b)->b1 <= b /\ b < b2)
  (h2:∀ b,v.g.val.ownBlock=some b->b2 <= b /\ b < b3) (h3:∀ b,v.f.val.ownBlock=some b->b3 <= b /\ b < b4) (h4:∀ b,v.r.val.ownBlock=some b->b4 <= b /\ b < b5) (l2:b1 <= b2) (l3:b2 <= b3) (l4:b3 <= b4) :
  ∀ i j b,aX v vs i b->aX v vs j b->i=j:=by
 have key:∀ i b,aX v vs i b->(i=0 /\ b0 <= b /\ b < b1)∨(i=1 /\ b1 <= b /\ b < b2)∨(i=2 /\ b2 <= b /\ b < b3)∨(i=3 /\ b3 <= b /\ b < b4)∨(i=4 /\ b4 <= b /\ b < b5):=by
  intro i b h
  match i,h with
  | 0,h=>exact .inl ⟨rfl,h0 b h⟩
  | 1,h=>exact .inr (.inl ⟨rfl,h1 b h⟩)
  | 2,h=>exact .inr (.inr (.inl ⟨rfl,h2 b h⟩))
  | 3,h=>exact .inr (.inr (.inr (.inl ⟨rfl,h3 b h⟩)))
  | 4,h=>exact .inr (.inr (.inr (.inr ⟨rfl,h4 b h⟩)))
  | n+5,h=>exact h.elim
 intro i j b hi hj
 have:=key i b hi
 have:=key j b hj
 omega
def nQ (v:Value) (vs:List Lv) (b:Nat):Prop:=v.ownBlock=some b∨∃ x∈vs,x.row.ownBlock=some b
theorem Mine.hY {w w':World} {lo hi:Nat} {v:Value} {vs:List Lv} {ls:List Lk} (h:Mine w lo hi v vs ls) (k:∀ b,nQ v vs b->w'.heap[b]?=w.heap[b]?):Mine w' lo hi v vs ls :=
 ⟨h.len,h.own.same fun b e=>k b (.inl e),h.out,fun i x l hx hl=>⟨(h.rows i x l hx hl).1,(h.rows i x l hx hl).2.same fun b e=>k b (.inr ⟨x,List.mem_of_getElem? hx,e⟩)⟩,h.fx,h.apart⟩
theorem Mine.aG {w:World} {lo hi:Nat} {v:Value} {vs:List Lv} {ls:List Lk} (h:Mine w lo hi v vs ls) {b:Nat} (hb:nQ v vs b):lo <= b /\ b < w.heap.size:=by
 rcases hb with e | ⟨x,hx,e⟩
 ·exact h.own.cr b e
 ·obtain ⟨i,hi⟩:=List.mem_iff_getElem?.1 hx
  obtain ⟨l,hl⟩:=cd (xs:=ls) (k:=i) (by rw [<- h.len];exact cZ hi)
  exact (h.rows i x l hi hl).2.cr b e
theorem ay.aG {w:World} {lo:Nat} {v:Sv} {vs:List Lv} {s:Sy} (h:ay w lo v vs s) {i b:Nat} (hb:aX v vs i b):lo <= b /\ b < w.heap.size:=by
 match i,hb with
 | 0,hb=>exact h.t.cr b hb
 | 1,hb=>exact h.l.aG hb
 | 2,hb=>exact h.g.cr b hb
 | 3,hb=>exact h.f.cr b hb
 | 4,hb=>exact h.r.cr b hb
theorem ay.others {w w':World} {lo:Nat} {v:Sv} {vs:List Lv} {s:Sy} (h:ay w lo v vs s) (i:Nat) (k:∀ b,b < w.heap.size->¬ aX v vs i b->w'.heap[b]?=w.heap[b]?) {j b:Nat} (hj:j≠i) (hb:aX v vs j b):w'.heap[b]?=w.heap[b]? :=
 k b (h.aG hb).2 fun hi=>hj (h.ap j i b hb hi)
theorem mo {w:World} {lo:Nat} {v v':Sv} {vs vs':List Lv} {s:Sy} (h:ay w lo v vs s) (i:Nat) (hi:∀ b,aX v' vs' i b->aX v vs i b∨w.heap.size <= b) (ho:∀ j b,j≠i->aX v' vs' j b->aX v vs j b) :
  ∀ j k b,aX v' vs' j b->aX v' vs' k b->j=k:=by
 intro j k b hj hk
 by_cases ej:j=i
 ·by_cases ek:k=i
  ·omega
  ·have h2:=ho k b ek hk
   rw [ej] at hj
   rcases hi b hj with h1 | h1
   ·rw [ej];exact h.ap i k b h1 h2
   ·have:=(h.aG h2).2;omega
 ·have h1:=ho j b ej hj
  by_cases ek:k=i
  ·rw [ek] at hk
   rcases hi b hk with h2 | h2
   ·rw [ek];exact h.ap j i b h1 h2
   ·have:=(h.aG h1).2;omega
  ·exact h.ap j k b h1 (ho k b ek hk)
theorem ay.lg {w w':World} {lo:Nat} {v:Sv} {vs:List Lv} {s:Sy} (h:ay w lo v vs s) (hz:w.heap.size <= w'.heap.size) (k:∀ b,b < w.heap.size->¬ aX v vs 0 b->w'.heap[b]?=w.heap[b]?) (x:Rw) (xs:List ar) (O:Own 43 14 tc w' lo x.val xs) (hx:∀ b,x.val.ownBlock=some b->v.t.val.ownBlock=some b∨w.heap.size <= b) :
  ay w' lo { v with t:=x } vs { s with tasks:=xs } :=
 ⟨O,(h.l.hY fun b e=>h.others 0 k (j:=1) (by decide) e).widen (Nat.le_refl _) hz,h.g.same fun b e=>h.others 0 k (j:=2) (by decide) e,h.f.same fun b e=>h.others 0 k (j:=3) (by decide) e,h.r.same fun b e=>h.others 0 k (j:=4) (by decide) e,mo h 0 hx (by
   intro j b hj hb
   match j,hb with
   | 0,hb=>exact absurd rfl hj
   | 1,hb=>exact hb
   | 2,hb=>exact hb
   | 3,hb=>exact hb
   | 4,hb=>exact hb)⟩
theorem ay.pf {w w':World} {lo:Nat} {v:Sv} {vs:List Lv} {s:Sy} (h:ay w lo v vs s) (hz:w.heap.size <= w'.heap.size) (k:∀ b,b < w.heap.size->¬ aX v vs 2 b->w'.heap[b]?=w.heap[b]?) (x:Rw) (xs:List Gh) (O:Own 87 4 cP w' lo x.val xs) (hx:∀ b,x.val.ownBlock=some b->v.g.val.ownBlock=some b∨w.heap.size <= b) :
  ay w' lo { v with g:=x } vs { s with af:=xs } :=
 ⟨h.t.same fun b e=>h.others 2 k (j:=0) (by decide) e,(h.l.hY fun b e=>h.others 2 k (j:=1) (by decide) e).widen (Nat.le_refl _) hz,O,h.f.same fun b e=>h.others 2 k (j:=3) (by decide) e,h.r.same fun b e=>h.others 2 k (j:=4) (by decide) e,mo h 2 hx (by
   intro j b hj hb
   match j,hb with
   | 0,hb=>exact hb
   | 1,hb=>exact hb
   | 2,hb=>exact absurd rfl hj
   | 3,hb=>exact hb
   | 4,hb=>exact hb)⟩
theorem ay.ph {w w':World} {lo:Nat} {v:Sv} {vs:List Lv} {s:Sy} (h:ay w lo v vs s) (hz:w.heap.size <= w'.heap.size) (k:∀ b,b < w.heap.size->¬ aX v vs 3 b->w'.heap[b]?=w.heap[b]?) (x:Rw) (xs:List Int) (O:aS w' lo x.val xs) (hx:∀ b,x.val.ownBlock=some b->v.f.val.ownBlock=some b∨w.heap.size <= b) :
  ay w' lo { v with f:=x } vs { s with ax:=xs } :=
 ⟨h.t.same fun b e=>h.others 3 k (j:=0) (by decide) e,(h.l.hY fun b e=>h.others 3 k (j:=1) (by decide) e).widen (Nat.le_refl _) hz,h.g.same fun b e=>h.others 3 k (j:=2) (by decide) e,O,h.r.same fun b e=>h.others 3 k (j:=4) (by decide) e,mo h 3 hx (by
   intro j b hj hb
   match j,hb with
   | 0,hb=>exact hb
   | 1,hb=>exact hb
   | 2,hb=>exact hb
   | 3,hb=>exact absurd rfl hj
   | 4,hb=>exact hb)⟩
theorem ay.pg {w w':World} {lo:Nat} {v:Sv} {vs:List Lv} {s:Sy} (h:ay w lo v vs s) (hz:w.heap.size <= w'.heap.size) (k:∀ b,b < w.heap.size->¬ aX v vs 4 b->w'.heap[b]?=w.heap[b]?) (x:Rw) (xs:List Tn) (O:Own 104 3 dX w' lo x.val xs) (hx:∀ b,x.val.ownBlock=some b->v.r.val.ownBlock=some b∨w.heap.size <= b) :
  ay w' lo { v with r:=x } vs { s with trace:=xs } :=
 ⟨h.t.same fun b e=>h.others 4 k (j:=0) (by decide) e,(h.l.hY fun b e=>h.others 4 k (j:=1) (by decide) e).widen (Nat.le_refl _) hz,h.g.same fun b e=>h.others 4 k (j:=2) (by decide) e,h.f.same fun b e=>h.others 4 k (j:=3) (by decide) e,O,mo h 4 hx (by
   intro j b hj hb
   match j,hb with
   | 0,hb=>exact hb
   | 1,hb=>exact hb
   | 2,hb=>exact hb
   | 3,hb=>exact hb
   | 4,hb=>exact absurd rfl hj)⟩
theorem ay.bQ {w w':World} {lo:Nat} {v:Sv} {vs vs':List Lv} {s:Sy} (h:ay w lo v vs s) (k:∀ b,b < w.heap.size->¬ aX v vs 1 b->w'.heap[b]?=w.heap[b]?) (x:Rw) (ls:List Lk) (L:Mine w' lo w'.heap.size x.val vs' ls) (hx:∀ b,nQ x.val vs' b->nQ v.l.val vs b∨w.heap.size <= b) :
  ay w' lo { v with l:=x } vs' { s with ak:=ls } :=
 ⟨h.t.same fun b e=>h.others 1 k (j:=0) (by decide) e,L,h.g.same fun b e=>h.others 1 k (j:=2) (by decide) e,h.f.same fun b e=>h.others 1 k (j:=3) (by decide) e,h.r.same fun b e=>h.others 1 k (j:=4) (by decide) e,mo h 1 hx (by
   intro j b hj hb
   match j,hb with
   | 0,hb=>exact hb
   | 1,hb=>exact absurd rfl hj
   | 2,hb=>exact hb
   | 3,hb=>exact hb
   | 4,hb=>exact hb)⟩
theorem ay.nums {w:World} {lo:Nat} {v:Sv} {vs:List Lv} {s:Sy} (h:ay w lo v vs s) (now az seq missed:Int):ay w lo v vs { s with now:=now,az:=az,seq:=seq,missed:=missed }:=⟨h.t,h.l,h.g,h.f,h.r,h.ap⟩
theorem pq {α:Type} {P:Program} {w:World} {ops:Array Oper} {rest:List Oper} {o:Oper} {a:Act} {Q:Exit->Act->World->Prop} (hgd:o.guard=none) (s x:Operand) (t:TypeId)
  (hop:o.op = .call { callee := .builtin .append,args:=#[s,x],argTypes:=#[t,t] })
  (base:Nat) (e:TypeId) (z:Value) (sz bytes:Nat) (c:α->Array Value) (ht:P.underlying t=some (.slice e)) (hinfo:(P.info? e).map (fun i=>(i.zero,i.size,i.bytes))=some (some z,sz,bytes))
  (hzs:z.cells.size=sz) (hsz:0 < sz) (hc:∀ x,(c x).size=sz) (h1:∀ x,∀ u∈(c x).toList,u.oneCell'=true)
  (v:Value) (hs:a.eval s=v) (hown:Own e sz c w base v []) (hbase:base <= w.heap.size)
  (ys:List α) (r:Rw) (hpl:Plain w r.a r.n r.cap) (hl:cm sz c w r.a ys) (hn:ys.length=r.n) (hx:a.eval x = .slice r.a r.n r.cap)
  (h63:ys.length <= 2097152) (hbytes:bytes <= 1000)
  (h:∀ v' w',Own e sz c w' base v' ys->w.grownBy w' v.ownBlock->(∀ k,v'.ownBlock=some k->v.ownBlock=some k∨k=w.heap.size)->wpList P ops Q rest (a.put o.dst v') w'):wpList P ops Q (o::rest) a w:=by
 refine wpList_plain hgd fun K hK => ?_
 rcases hpl with ⟨e1,e2,e3⟩ | ⟨b,off,e1,hb,hle⟩
 ·have hy:ys=[]:=List.eq_nil_of_length_eq_zero (hn.trans e2)
  subst hy
  rw [e1,e2,e3] at hx
  obtain ⟨i,hi,hzz⟩:=Option.map_eq_some_iff.1 hinfo
  have hrun:=run_append_owned_none (P:=P) w base t o.type e i sz ht hi v ([]:List α).length (aV c ([]:List α)) hown
  unfold Oper.wp
  simp [execOp,hop,resolve,invoke,builtin,hs,hx,hrun,Result.andThen]
  exact hK _ _ (h v w hown (World.grownBy.refl w v.ownBlock) fun k e => .inl e)
 ·rw [e1,<- hn] at hx
  rw [e1] at hl
  have hb2:(0+ys.length)*bytes <= 140737488355328:=by
   have:ys.length*bytes <= 2097152*1000:=Nat.mul_le_mul h63 hbytes
   rw [Nat.zero_add];omega
  obtain ⟨v',w',hrun,r1,r2,r3⟩:=qS (P:=P) w base t o.type e z sz bytes c ht hinfo hzs hsz hc h1 v [] hown hbase ys b off r.cap hl (by simp [maxLen];omega) hb2
  unfold Oper.wp
  simp [execOp,hop,resolve,invoke,builtin,hs,hx,hrun,Result.andThen]
  exact hK _ _ (h v' w' (by simpa using r1) r2 r3)
theorem Own.ny {α:Type} {e:TypeId} {sz:Nat} {c:α->Array Value} {w:World} {base:Nat} {v:Value} {xs:List α} (h:Own e sz c w base v xs) {b:Nat} (hb:b < base) (o:Nat) (u:Value):Own e sz c (w.setCell ⟨b,o,none⟩ u) base v xs :=
 h.cy ((ab.refl b w).setCell o u) hb
theorem Own.gG {α:Type} {e:TypeId} {sz:Nat} {c:α->Array Value} {base:Nat} {v:Value} {xs:List α} {b:Nat} (hb:b < base):∀ (L:List Value) {w:World} (k:Nat),Own e sz c w base v xs->Own e sz c (putC w b k L) base v xs
 | [],_,_,h=>h
 | u::r,_,k,h=>Own.gG hb r (k+1) (h.ny hb k u)
theorem Jh (t:ar) (ts:List ar):0 < (ins t ts).length:=by rw [pW];omega
structure DL (w wr:World) (g:Nat) (v:Value) (xs:List ar):Prop where
 own:dr wr w.heap.size v xs
 sw:∃ b cp,v = .slice (some ⟨b,0,none⟩) xs.length cp
 cur:bf wr g
 kb:ab g w wr
theorem DL.but {w wr wr':World} {g:Nat} {v:Value} {xs:List ar} (h:DL w wr g v xs) (hg:g < w.heap.size) (k:ab g wr wr') (hc:bf wr' g):DL w wr' g v xs :=
 ⟨h.own.cy k hg,h.sw,hc,h.kb.trans k⟩
theorem DL.keeps {w wr wr':World} {g:Nat} {v:Value} {xs:List ar} (h:DL w wr g v xs) (hg:g < w.heap.size) (k:aa wr wr'):DL w wr' g v xs:=h.but hg (.of k) (h.cur.keeps k)
set_option maxHeartbeats 8000000 in
theorem B9 (g:Nat) (w:World) (hc:bf w g) :
  Calls Tryz.prog 51 #[.pointer (some ⟨g,0,none⟩)] w fun e w'=>∃ (v:Value) (xs:List ar),e = .returned v /\ DL w w' g v xs /\ xs.length <= 13:=by
 have hgl:=hc.lt
 go_enter Tryz.func51,Tryz.ntmps51
 go_wp2_with fail
 have D0:DL w (w.alloc (.cells #[] 43)) g (.slice (some ⟨w.heap.size,0,none⟩) 0 0) [] :=
  ⟨Own.new 43 14 tc w (Nat.le_refl _),⟨_,_,rfl⟩,hc.keeps ((aa.refl w).alloc _),(ab.refl g w).alloc _⟩
 clear hc
 generalize w.alloc (.cells #[] 43)=W at *
 generalize hv0:Value.slice (some ⟨w.heap.size,0,none⟩) 0 0=v0 at *
 clear hv0
 refine (cl g _ _ D0.cur (by omega) (by omega)).mono ?_
 rintro e w1 ⟨m,rfl,hm0,hm1,hc1,k1⟩
 have D:=D0.but hgl k1 hc1
 clear D0 k1 hc1
 go_wp2_with fail
 refine (lL g _ _ D.cur (by omega) (by omega)).mono ?_
 rintro e w2 ⟨b,rfl,hc2,k2⟩
 have D:=D.but hgl k2 hc2
 clear k2 hc2
 go_upto_if 12 with fail
 go_cut [4] (fun c wx=>∃ n:Nat,n <= 30 /\ c = .int .i64 n /\ wx=w2)
 case first =>
  cases b
  ·go_wp2_with fail
   go_meet
   exact ⟨m.toNat,by omega,by rw [Int.toNat_of_nonneg hm0],rfl⟩
  ·go_wp2_with fail
   go_meet
   exact ⟨30,by omega,rfl,rfl⟩
 case rest =>
 obtain ⟨n,hn,rfl,rfl⟩:=hcut
 go_wp2
 go_loopw [3,5] (fun v i wr=>∃ (k:Nat) (xs:List ar),k <= n /\ i = .int .i64 k /\ DL w wr g v xs /\ xs.length <= 12) (fun _ i _=>n - (intOf i).toNat)
 case atStart=>exact ⟨0,[],Nat.zero_le _,rfl,D,by simp⟩
 case round =>
  obtain ⟨k,xs,hk,rfl,D,u0⟩:=hrel
  by_cases hlt:k < n
  ·have hlt':(k:Int) < (n:Int):=by omega
   obtain ⟨bv,cp,rfl⟩:=D.sw
   go_wp2_with fail
   refine (wJ g _ D.cur).mono ?_
   rintro e w3 ⟨t,rfl,hc3,k3⟩
   have D:=D.but hgl k3 hc3
   clear k3 hc3
   have hl:cm 14 tc w3 (some ⟨bv,0,none⟩) xs:=by
    obtain ⟨a,c,e,l,-,-⟩:=D.own.slice cF
    simp only [Value.slice.injEq] at e
    obtain ⟨rfl,-,-⟩:=e
    exact l
   go_wp2_with fail
   refine (vO bv 0 cp xs t w3 (by unfold maxLen;omega) hl).mono ?_
   rintro e w4 ⟨v4,rfl,ki,k4⟩
   have D4:=D.keeps hgl k4
   have hsz:=D.kb.size
   cases hb:dD xs t
   ·have HD:Hid (DL w w4 g (.slice (some ⟨bv,0,none⟩) xs.length cp) xs):=D4
    clear D D4 ki k4 hl
    go_wp2
    exact ⟨⟨k+1,xs,by omega,by go_num,HD.out,u0⟩,by simp only [intOf];omega⟩
   ·have e:bY xs t=ins t xs:=by
     simp only [dD,Bool.and_eq_true] at hb
     simp [bY,hb.1,hb.2]
    rw [e] at ki
    have hl12:(ins t xs).length <= 12:=by
     simp only [dD,Bool.and_eq_true] at hb
     exact tZ hb.2
    obtain ⟨b5,c5,rfl,-,-,-⟩:=ki.some cF (Jh t xs)
    have HD:Hid (DL w w4 g (.slice (some ⟨b5,0,none⟩) (ins t xs).length c5) (ins t xs)):=⟨ki.base hsz,⟨_,_,rfl⟩,D4.cur,D4.kb⟩
    clear D D4 ki k4 hl e
    go_wp2
    exact ⟨⟨k+1,_,by omega,by go_num,HD.out,hl12⟩,by simp only [intOf];omega⟩
  ·go_wp2_with fail
   refine (lL g _ _ D.cur (by omega) (by omega)).mono ?_
   rintro e w5 ⟨b,rfl,eP,k5⟩
   have D:=D.but hgl k5 eP
   clear k5 eP
   cases b
   ·have HD:Hid (DL w w5 g _ xs):=D
    clear D
    go_wp2
    go_ret
    exact ⟨_,xs,rfl,HD.out,by omega⟩
   ·go_wp2_with fail
    refine (sA g _ D.cur).mono ?_
    rintro e w6 ⟨t,rfl,hc6,k6⟩
    have D:=D.but hgl k6 hc6
    clear k6 hc6
    have hsz:=D.kb.size
    have D7:=D.keeps hgl ((aa.refl w6).alloc (.cells (tc t) 43))
    have qu:=D7.own
    have HD:Hid (DL w (w6.alloc (.cells (tc t) 43)) g _ xs):=D7
    clear D D7
    go_wp2_with (at_builtin;(refine De rfl _ _ 24 rfl w.heap.size 43 (tk ar.zero) 14 112 tc Tryz.underlying24 (by kernel_rfl) rfl (by decide) cF gV _ xs rfl qu ?c0 t _ 1 (aq.new _ _ _) rfl ?c1 ?c2 ?_))
    case c0=>simp;omega
    case c1=>unfold maxLen;omega
    case c2=>omega
    intro v8 w8 nz u9 va
    obtain ⟨b8,c8,e8,-,-,-⟩:=nz.some cF (by simp)
    have Ji:Hid (DL w w8 g v8 (xs++[t])):=⟨nz,⟨_,_,e8⟩,HD.out.cur.grown u9 (fun k hk=>by have:=va k hk;omega),HD.out.kb.grown u9 va⟩
    clear qu nz u9 va HD e8
    go_wp2
    go_ret
    exact ⟨_,_,rfl,Ji.out,by simp;omega⟩
end Go.Proofs.YteagpjlgjfaclaaGreatDoor
