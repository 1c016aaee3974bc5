/-
  Where a system lies: its nine cells, and its five rows.
  A row is copied: append onto an empty row of one's own.
  A row is copied onto an empty one of one's own, as a step o
-/
import Derived.Test.YteagpjlgjfaclaaGreatDoorFairList
import Derived.Test.YteagpjlgjfaclaaGreatDoorPickSpec
import Derived.Test.YteagpjlgjfaclaaGreatDoorPlain1
import Derived.Test.YteagpjlgjfaclaaGreatDoorTaskPut
import Derived.Test.YteagpjlgjfaclaaGreatDoorLockSpec3
namespace Go.Proofs.YteagpjlgjfaclaaGreatDoor
open Go.RowKit
structure Rw where
 a:Option Addr
 n:Nat
 cap:Nat
abbrev Rw.val (x:Rw):Value := .slice x.a x.n x.cap
structure Sv where
 t:Rw
 l:Rw
 g:Rw
 f:Rw
 r:Rw
abbrev syc (s:Sy) (v:Sv):Array Value:=#[.int .i64 s.now,.int .i64 s.cpus,.slice v.t.a v.t.n v.t.cap,.slice v.l.a v.l.n v.l.cap,.slice v.g.a v.g.n v.g.cap,.slice v.f.a v.f.n v.f.cap,.int .i64 s.seq,.int .i64 s.missed,.slice v.r.a v.r.n v.r.cap]
def qai (s:Sy):Nat:=s.tasks.length+qaj s.locks+s.ghosts.length+s.floors.length+s.trace.length
structure SysLay (p:Bool) (w:World) (v:Sv) (s:Sy):Prop where
 tl:s.tasks.length=v.t.n
 tm:v.t.n <= maxLen
 t:Ts w v.t.a s.tasks
 ll:s.locks.length=v.l.n
 lm:v.l.n <= maxLen
 l:Lks p w v.l.a s.locks
 gl:s.ghosts.length=v.g.n
 gm:v.g.n <= maxLen
 g:Gs w v.g.a s.ghosts
 fl:s.floors.length=v.f.n
 fm:v.f.n <= maxLen
 f:Ns w v.f.a s.floors
 rl:s.trace.length=v.r.n
 rm:v.r.n <= maxLen
 r:Rs w v.r.a s.trace
theorem SysLay.keeps {p:Bool} {w w':World} {v:Sv} {s:Sy} (h:SysLay p w v s) (k:Keeps w w'):SysLay p w' v s :=
 ⟨h.tl,h.tm,h.t.keeps k,h.ll,h.lm,h.l.keeps k,h.gl,h.gm,h.g.keeps k,h.fl,h.fm,h.f.keeps k,h.rl,h.rm,h.r.keeps k⟩
structure SysOn (w:World) (v:Sv) (s:Sy):Prop where
 lay:SysLay true w v s
 tc:Plain w v.t.a v.t.n v.t.cap
 lc:Plain w v.l.a v.l.n v.l.cap
 gc:Plain w v.g.a v.g.n v.g.cap
 fc:Plain w v.f.a v.f.n v.f.cap
 rc:Plain w v.r.a v.r.n v.r.cap
 size:qai s <= 2000000
theorem SysOn.keeps {w w':World} {v:Sv} {s:Sy} (h:SysOn w v s) (k:Keeps w w'):SysOn w' v s:=⟨h.lay.keeps k,h.tc.keeps k,h.lc.keeps k,h.gc.keeps k,h.fc.keeps k,h.rc.keeps k,h.size⟩
theorem SysOn.onT {w:World} {v:Sv} {s:Sy} (h:SysOn w v s):OnT w v.t.a v.t.n v.t.cap s.tasks:=⟨h.lay.tl,by rw [h.lay.tl];exact h.lay.tm,h.lay.t⟩
theorem SysOn.onL {w:World} {v:Sv} {s:Sy} (h:SysOn w v s):On w v.l.a v.l.n v.l.cap s.locks:=⟨h.lay.ll,by have:=h.size;unfold qai at this;omega,h.lay.l,h.lc⟩
def qaf (v:Sv) (vs:List Lv):Nat->Nat->Prop
 | 0,b=>v.t.val.ownBlock=some b
 | 1,b=>v.l.val.ownBlock=some b∨∃ x∈vs,x.row.ownBlock=some b
 | 2,b=>v.g.val.ownBlock=some b
 | 3,b=>v.f.val.ownBlock=some b
 | 4,b=>v.r.val.ownBlock=some b
 | _,_=>False
structure OwnS (w:World) (lo:Nat) (v:Sv) (vs:List Lv) (s:Sy):Prop where
 t:Own 43 14 tc w lo v.t.val s.tasks
 l:Mine w lo w.heap.size v.l.val vs s.locks
 g:Own 87 4 ghc w lo v.g.val s.ghosts
 f:OwnN w lo v.f.val s.floors
 r:Own 104 3 tnc w lo v.r.val s.trace
 ap:∀ i j b,qaf v vs i b->qaf v vs j b->i=j
theorem OwnS.keeps {w w':World} {lo:Nat} {v:Sv} {vs:List Lv} {s:Sy} (h:OwnS w lo v vs s) (k:Keeps w w'):OwnS w' lo v vs s :=
 ⟨h.t.keeps k,(h.l.keeps k).widen (Nat.le_refl _) k.size,h.g.keeps k,h.f.keeps k,h.r.keeps k,h.ap⟩
theorem OwnS.base {w:World} {lo lo':Nat} {v:Sv} {vs:List Lv} {s:Sy} (h:OwnS w lo v vs s) (k:lo' <= lo):OwnS w lo' v vs s :=
 ⟨h.t.base k,h.l.widen k (Nat.le_refl _),h.g.base k,h.f.base k,h.r.base k,h.ap⟩
theorem Plain.le {w:World} {a:Option Addr} {n cap:Nat} (h:Plain w a n cap):n <= cap:=by
 rcases h with ⟨-,rfl,rfl⟩ | ⟨_,_,_,_,h⟩
 ·exact Nat.le_refl _
 ·exact h
theorem Own.row {α:Type} {e:TypeId} {sz:Nat} {c:α->Array Value} {w:World} {base:Nat} {x:Rw} {xs:List α} (h:Own e sz c w base x.val xs) (hc:∀ x,(c x).size=sz):xs.length=x.n /\ Lies sz c w x.a xs /\ Plain w x.a x.n x.cap /\ x.n <= maxLen:=by
 have hb:=h.ltb
 have hp:Plain w x.a x.n x.cap:=by
  obtain ⟨_,⟨e,_⟩ | ⟨b,cap,cur,e,_,_,hl,_⟩⟩:=h
  ·simp only [Rw.val,Value.slice.injEq] at e
   exact .inl e
  ·simp only [Rw.val,Value.slice.injEq] at e
   obtain ⟨e1,e2,e3⟩:=e
   refine .inr ⟨b,0,e1,(hb b ?_).2,?_⟩
   ·show (Value.slice x.a x.n x.cap).ownBlock=_
    rw [e1];rfl
   ·rw [e2,e3];exact hl
 obtain ⟨a,cap,e,l,h1,h2⟩:=h.slice hc
 simp only [Rw.val,Value.slice.injEq] at e
 obtain ⟨e1,e2,e3⟩:=e
 refine ⟨e2.symm,by rw [e1];exact l,hp,?_⟩
 rw [e2];omega
theorem OwnS.on {w:World} {lo:Nat} {v:Sv} {vs:List Lv} {s:Sy} (h:OwnS w lo v vs s) (hs:qai s <= 2000000):SysOn w v s:=by
 obtain ⟨t1,t2,t3,t4⟩:=h.t.row qao
 obtain ⟨g1,g2,g3,g4⟩:=h.g.row qb5
 obtain ⟨f1,f2,f3,f4⟩:=h.f.row qaW
 obtain ⟨r1,r2,r3,r4⟩:=h.r.row qbO
 obtain ⟨a,cap,e,l1,l2,l3⟩:=h.l.args
 simp only [Rw.val,Value.slice.injEq] at e
 obtain ⟨e1,e2,e3⟩:=e
 rw [<- e1] at l1 l2
 rw [<- e2] at l2 l3
 rw [<- e3] at l2
 exact ⟨⟨t1,t4,t2,e2.symm,l3,l1,g1,g4,g2,f1,f4,Ns.of_lies f2,r1,r4,r2⟩,t3,l2,g3,f3,r3,hs⟩
theorem qhz {v:Sv} {vs:List Lv} (b0 b1 b2 b3 b4 b5:Nat) (h0:∀ b,v.t.val.ownBlock=some b->b0 <= b /\ b < b1) (h1:∀ b,(v.l.val.ownBlock=some b∨∃ x∈vs,x.row.ownBlock=some b)->b1 <= b /\ b < b2)
  (h2:∀ b,v.g.val.ownBlock=some b->b2 <= b /\ b < b3) (h3:∀ b,v.f.val.ownBlock=some b->b3 <= b /\ b < b4) (h4:∀ b,v.r.val.ownBlock=some b->b4 <= b /\ b < b5) (l2:b1 <= b2) (l3:b2 <= b3) (l4:b3 <= b4) :
  ∀ i j b,qaf v vs i b->qaf v vs j b->i=j:=by
 have key:∀ i b,qaf v vs i b->(i=0 /\ b0 <= b /\ b < b1)∨(i=1 /\ b1 <= b /\ b < b2)∨(i=2 /\ b2 <= b /\ b < b3)∨(i=3 /\ b3 <= b /\ b < b4)∨(i=4 /\ b4 <= b /\ b < b5):=by
  intro i b h
  match i,h with
  | 0,h=>exact .inl ⟨rfl,h0 b h⟩
  | 1,h=>exact .inr (.inl ⟨rfl,h1 b h⟩)
  | 2,h=>exact .inr (.inr (.inl ⟨rfl,h2 b h⟩))
  | 3,h=>exact .inr (.inr (.inr (.inl ⟨rfl,h3 b h⟩)))
  | 4,h=>exact .inr (.inr (.inr (.inr ⟨rfl,h4 b h⟩)))
  | n+5,h=>exact h.elim
 intro i j b hi hj
 have:=key i b hi
 have:=key j b hj
 omega
end Go.Proofs.YteagpjlgjfaclaaGreatDoor
namespace Go.Proofs.YteagpjlgjfaclaaGreatDoor
open Go.RowKit
theorem qed {α:Type} {P:Program} {w:World} {ops:Array Oper} {rest:List Oper} {o:Oper} {a:Act} {Q:Exit->Act->World->Prop} (hgd:o.guard=none) (s x:Operand) (t:TypeId)
  (hop:o.op = .call { callee := .builtin .append,args:=#[s,x],argTypes:=#[t,t] })
  (base:Nat) (e:TypeId) (z:Value) (sz bytes:Nat) (c:α->Array Value) (ht:P.underlying t=some (.slice e)) (hinfo:(P.info? e).map (fun i=>(i.zero,i.size,i.bytes))=some (some z,sz,bytes))
  (hzs:z.cells.size=sz) (hsz:0 < sz) (hc:∀ x,(c x).size=sz) (h1:∀ x,∀ u∈(c x).toList,u.oneCell'=true)
  (v:Value) (hs:a.eval s=v) (hown:Own e sz c w base v []) (hbase:base <= w.heap.size)
  (ys:List α) (r:Rw) (hpl:Plain w r.a r.n r.cap) (hl:Lies sz c w r.a ys) (hn:ys.length=r.n) (hx:a.eval x = .slice r.a r.n r.cap)
  (h63:ys.length <= 2097152) (hbytes:bytes <= 1000)
  (h:∀ v' w',Own e sz c w' base v' ys->w.grownBy w' v.ownBlock->(∀ k,v'.ownBlock=some k->v.ownBlock=some k∨k=w.heap.size)->wpList P ops Q rest (a.put o.dst v') w'):wpList P ops Q (o::rest) a w:=by
 refine wpList_plain hgd fun K hK => ?_
 rcases hpl with ⟨e1,e2,e3⟩ | ⟨b,off,e1,hb,hle⟩
 ·have hy:ys=[]:=List.eq_nil_of_length_eq_zero (hn.trans e2)
  subst hy
  rw [e1,e2,e3] at hx
  obtain ⟨i,hi,hzz⟩:=Option.map_eq_some_iff.1 hinfo
  have hrun:=run_append_owned_none (P:=P) w base t o.type e i sz ht hi v ([]:List α).length (qae c ([]:List α)) hown
  unfold Oper.wp
  simp [execOp,hop,resolve,invoke,builtin,hs,hx,hrun,Result.andThen]
  exact hK _ _ (h v w hown (World.grownBy.refl w v.ownBlock) fun k e => .inl e)
 ·rw [e1,<- hn] at hx
  rw [e1] at hl
  have hb2:(0+ys.length)*bytes <= 140737488355328:=by
   have:ys.length*bytes <= 2097152*1000:=Nat.mul_le_mul h63 hbytes
   rw [Nat.zero_add];omega
  obtain ⟨v',w',hrun,r1,r2,r3⟩:=qea (P:=P) w base t o.type e z sz bytes c ht hinfo hzs hsz hc h1 v [] hown hbase ys b off r.cap hl (by simp [maxLen];omega) hb2
  unfold Oper.wp
  simp [execOp,hop,resolve,invoke,builtin,hs,hx,hrun,Result.andThen]
  exact hK _ _ (h v' w' (by simpa using r1) r2 r3)
end Go.Proofs.YteagpjlgjfaclaaGreatDoor
namespace Go.Proofs.YteagpjlgjfaclaaGreatDoor
open Go.RowKit
theorem qdd {α:Type} {P:Program} {ops:Array Oper} {o:Oper} {a:Act} {w:World} {K:Act->World->Prop} {Q:Exit->Act->World->Prop} {E:Prop} (hgd:o.guard=none) (s x:Operand) (t:TypeId)
  (hop:o.op = .call { callee := .builtin .append,args:=#[s,x],argTypes:=#[t,t] })
  (base:Nat) (e:TypeId) (z:Value) (sz bytes:Nat) (c:α->Array Value) (ht:P.underlying t=some (.slice e)) (hinfo:(P.info? e).map (fun i=>(i.zero,i.size,i.bytes))=some (some z,sz,bytes))
  (hzs:z.cells.size=sz) (hsz:0 < sz) (hc:∀ x,(c x).size=sz) (h1:∀ x,∀ u∈(c x).toList,u.oneCell'=true)
  (v:Value) (hs:a.eval s=v) (hown:Own e sz c w base v []) (hbase:base <= w.heap.size)
  (ys:List α) (r:Rw) (hpl:Plain w r.a r.n r.cap) (hl:Lies sz c w r.a ys) (hn:ys.length=r.n) (hx:a.eval x = .slice r.a r.n r.cap)
  (h63:ys.length <= 2097152) (hbytes:bytes <= 1000)
  (h:∀ v' w',Own e sz c w' base v' ys->w.grownBy w' v.ownBlock->(∀ k,v'.ownBlock=some k->v.ownBlock=some k∨k=w.heap.size)->K (a.put o.dst v') w'):if Region.wanted o (yielded ops a.tmps)=true then Oper.wp P o a w K Q else E:=by
 have hw:Region.wanted o (yielded ops a.tmps)=true:=by simp [Region.wanted,hgd]
 rw [if_pos hw]
 rcases hpl with ⟨e1,e2,e3⟩ | ⟨b,off,e1,hb,hle⟩
 ·have hy:ys=[]:=List.eq_nil_of_length_eq_zero (hn.trans e2)
  subst hy
  rw [e1,e2,e3] at hx
  obtain ⟨i,hi,hzz⟩:=Option.map_eq_some_iff.1 hinfo
  have hrun:=run_append_owned_none (P:=P) w base t o.type e i sz ht hi v ([]:List α).length (qae c ([]:List α)) hown
  unfold Oper.wp
  simp [execOp,hop,resolve,invoke,builtin,hs,hx,hrun,Result.andThen]
  exact h v w hown (World.grownBy.refl w v.ownBlock) fun k e => .inl e
 ·rw [e1,<- hn] at hx
  rw [e1] at hl
  have hb2:(0+ys.length)*bytes <= 140737488355328:=by
   have:ys.length*bytes <= 2097152*1000:=Nat.mul_le_mul h63 hbytes
   rw [Nat.zero_add];omega
  obtain ⟨v',w',hrun,r1,r2,r3⟩:=qea (P:=P) w base t o.type e z sz bytes c ht hinfo hzs hsz hc h1 v [] hown hbase ys b off r.cap hl (by simp [maxLen];omega) hb2
  unfold Oper.wp
  simp [execOp,hop,resolve,invoke,builtin,hs,hx,hrun,Result.andThen]
  exact h v' w' (by simpa using r1) r2 r3
end Go.Proofs.YteagpjlgjfaclaaGreatDoor
