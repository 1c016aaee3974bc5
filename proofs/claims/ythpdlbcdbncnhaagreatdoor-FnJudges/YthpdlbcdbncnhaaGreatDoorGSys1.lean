/-
  Rows of ghosts and of turns: the laws' own helpers. Where a
  A row is copied: append onto an empty row of one's own.
-/
import Derived.Test.YthpdlbcdbncnhaaGreatDoorGPure2
import Derived.Test.YthpdlbcdbncnhaaGreatDoorGBase2
import Derived.Test.YthpdlbcdbncnhaaGreatDoorGLock1
import Derived.Test.YthpdlbcdbncnhaaGreatDoorGLock2
import Derived.Deep.RegionHeld3
import Derived.Test.YthpdlbcdbncnhaaGreatDoorGPick1
import Derived.Test.YthpdlbcdbncnhaaGreatDoorGDraw2
import Derived.Test.YthpdlbcdbncnhaaGreatDoorGTask3
import Derived.Test.YthpdlbcdbncnhaaGreatDoorGBase1
import Derived.Laws.StructEq
namespace Go.Proofs.YthpdlbcdbncnhaaGreatDoor
set_option maxRecDepth 100000
open Go.RowKit
attribute [local go_sem] Keeps.refl Keeps.alloc Keeps.drew Keeps.drewN
abbrev ghc (g:Gh):Array Value:=#[.int .i64 g.cpu,.int .i64 g.q,.int .i64 g.p,.int .i64 g.til]
abbrev tnc (t:Tn):Array Value:=#[.int .i64 t.cpu,.int .i64 t.ctx,.int .i64 t.exe]
theorem qcS (g:Gh):(ghc g).size=4:=rfl
theorem qbL (t:Tn):(tnc t).size=3:=rfl
theorem qfk (g:Gh):∀ u∈(ghc g).toList,u.oneCell'=true:=by
 intro u hu
 simp at hu
 rcases hu with rfl | rfl | rfl | rfl <;> rfl
theorem qeR (t:Tn):∀ u∈(tnc t).toList,u.oneCell'=true:=by
 intro u hu
 simp at hu
 rcases hu with rfl | rfl | rfl <;> rfl
abbrev Gs (w:World) (a:Option Addr) (gs:List Gh):Prop:=Lies 4 ghc w a gs
abbrev Rs (w:World) (a:Option Addr) (rs:List Tn):Prop:=Lies 3 tnc w a rs
theorem qnO {α:Type} {c:α->Array Value} {sz:Nat} (hc:∀ x,(c x).size=sz) (hsz:0 < sz) (z:α) (n:Nat):(madeCells (c z) (n*sz)).toList=qat c (List.replicate n z):=by
 apply List.ext_getElem?
 intro j
 by_cases hj:j < n*sz
 ·have hq:j / sz < n:=Nat.div_lt_of_lt_mul (by rw [Nat.mul_comm];exact hj)
  have hm:j % sz < sz:=Nat.mod_lt _ hsz
  have hjj:j / sz*sz+j % sz=j:=by rw [Nat.mul_comm];exact Nat.div_add_mod j sz
  have h:=qdH hc (List.replicate n z) (j / sz) z (by simp [hq]) (j % sz) hm
  rw [hjj] at h
  rw [h]
  simp only [madeCells,Array.getElem?_toList,Array.getElem?_map,Array.getElem?_range,hj,if_true,Option.map_some,hc]
  rw [Array.getElem?_eq_getElem (by rw [hc];exact hm)]
  simp [hc,hm]
 ·rw [List.getElem?_eq_none (by simpa [madeCells] using hj),List.getElem?_eq_none]
  have:=qcY hc (List.replicate n z)
  simp at this
  omega
theorem Own.zeros {α:Type} {e:TypeId} {c:α->Array Value} {sz:Nat} (hc:∀ x,(c x).size=sz) (hsz:0 < sz) (z:α) (w:World) (n:Nat) (hn:n <= maxLen) :
  Own e sz c (w.alloc (.cells (madeCells (c z) (n*sz)) e)) w.heap.size (.slice (Option.some ⟨w.heap.size,0,none⟩) n n) (List.replicate n z):=by
 have h:=World.ownsRow_lit (e:=e) (size:=sz) (base:=w.heap.size) w (madeCells (c z) (n*sz)) n (Nat.le_refl _) hn (size_madeCells _ _)
 rw [qnO hc hsz] at h
 unfold Own
 rw [List.length_replicate]
 exact h
end Go.Proofs.YthpdlbcdbncnhaaGreatDoor
namespace Go.Proofs.YthpdlbcdbncnhaaGreatDoor
set_option maxRecDepth 100000
open Go.RowKit
structure Rw where
 a:Option Addr
 n:Nat
 cap:Nat
abbrev Rw.val (x:Rw):Value := .slice x.a x.n x.cap
structure Sv where
 t:Rw
 l:Rw
 g:Rw
 f:Rw
 r:Rw
abbrev syc (s:Sy) (v:Sv):Array Value:=#[.int .i64 s.now,.int .i64 s.cpus,.slice v.t.a v.t.n v.t.cap,.slice v.l.a v.l.n v.l.cap,.slice v.g.a v.g.n v.g.cap,.slice v.f.a v.f.n v.f.cap,.int .i64 s.seq,.int .i64 s.missed,.slice v.r.a v.r.n v.r.cap]
def qaj (s:Sy):Nat:=s.tasks.length+qak s.locks+s.ghosts.length+s.floors.length+s.trace.length
structure SysLay (p:Bool) (w:World) (v:Sv) (s:Sy):Prop where
 tl:s.tasks.length=v.t.n
 tm:v.t.n <= maxLen
 t:Ts w v.t.a s.tasks
 ll:s.locks.length=v.l.n
 lm:v.l.n <= maxLen
 l:Lks p w v.l.a s.locks
 gl:s.ghosts.length=v.g.n
 gm:v.g.n <= maxLen
 g:Gs w v.g.a s.ghosts
 fl:s.floors.length=v.f.n
 fm:v.f.n <= maxLen
 f:Ns w v.f.a s.floors
 rl:s.trace.length=v.r.n
 rm:v.r.n <= maxLen
 r:Rs w v.r.a s.trace
theorem SysLay.keeps {p:Bool} {w w':World} {v:Sv} {s:Sy} (h:SysLay p w v s) (k:Keeps w w'):SysLay p w' v s :=
 ⟨h.tl,h.tm,h.t.keeps k,h.ll,h.lm,h.l.keeps k,h.gl,h.gm,h.g.keeps k,h.fl,h.fm,h.f.keeps k,h.rl,h.rm,h.r.keeps k⟩
structure SysOn (w:World) (v:Sv) (s:Sy):Prop where
 lay:SysLay true w v s
 tc:Plain w v.t.a v.t.n v.t.cap
 lc:Plain w v.l.a v.l.n v.l.cap
 gc:Plain w v.g.a v.g.n v.g.cap
 fc:Plain w v.f.a v.f.n v.f.cap
 rc:Plain w v.r.a v.r.n v.r.cap
 size:qaj s <= 2000000
theorem SysOn.keeps {w w':World} {v:Sv} {s:Sy} (h:SysOn w v s) (k:Keeps w w'):SysOn w' v s:=⟨h.lay.keeps k,h.tc.keeps k,h.lc.keeps k,h.gc.keeps k,h.fc.keeps k,h.rc.keeps k,h.size⟩
theorem SysOn.onT {w:World} {v:Sv} {s:Sy} (h:SysOn w v s):OnT w v.t.a v.t.n v.t.cap s.tasks:=⟨h.lay.tl,by rw [h.lay.tl];exact h.lay.tm,h.lay.t⟩
theorem SysOn.onL {w:World} {v:Sv} {s:Sy} (h:SysOn w v s):On w v.l.a v.l.n v.l.cap s.locks:=⟨h.lay.ll,by have:=h.size;unfold qaj at this;omega,h.lay.l,h.lc⟩
def qah (v:Sv) (vs:List Lv):Nat->Nat->Prop
 | 0,b=>v.t.val.ownBlock=some b
 | 1,b=>v.l.val.ownBlock=some b∨∃ x∈vs,x.row.ownBlock=some b
 | 2,b=>v.g.val.ownBlock=some b
 | 3,b=>v.f.val.ownBlock=some b
 | 4,b=>v.r.val.ownBlock=some b
 | _,_=>False
structure OwnS (w:World) (lo:Nat) (v:Sv) (vs:List Lv) (s:Sy):Prop where
 t:Own 47 14 tc w lo v.t.val s.tasks
 l:Mine w lo w.heap.size v.l.val vs s.locks
 g:Own 107 4 ghc w lo v.g.val s.ghosts
 f:OwnN w lo v.f.val s.floors
 r:Own 85 3 tnc w lo v.r.val s.trace
 ap:∀ i j b,qah v vs i b->qah v vs j b->i=j
theorem OwnS.keeps {w w':World} {lo:Nat} {v:Sv} {vs:List Lv} {s:Sy} (h:OwnS w lo v vs s) (k:Keeps w w'):OwnS w' lo v vs s :=
 ⟨h.t.keeps k,(h.l.keeps k).widen (Nat.le_refl _) k.size,h.g.keeps k,h.f.keeps k,h.r.keeps k,h.ap⟩
theorem OwnS.base {w:World} {lo lo':Nat} {v:Sv} {vs:List Lv} {s:Sy} (h:OwnS w lo v vs s) (k:lo' <= lo):OwnS w lo' v vs s :=
 ⟨h.t.base k,h.l.widen k (Nat.le_refl _),h.g.base k,h.f.base k,h.r.base k,h.ap⟩
theorem Plain.le {w:World} {a:Option Addr} {n cap:Nat} (h:Plain w a n cap):n <= cap:=by
 rcases h with ⟨-,rfl,rfl⟩ | ⟨_,_,_,_,h⟩
 ·exact Nat.le_refl _
 ·exact h
theorem Own.row {α:Type} {e:TypeId} {sz:Nat} {c:α->Array Value} {w:World} {base:Nat} {x:Rw} {xs:List α} (h:Own e sz c w base x.val xs) (hc:∀ x,(c x).size=sz):xs.length=x.n /\ Lies sz c w x.a xs /\ Plain w x.a x.n x.cap /\ x.n <= maxLen:=by
 have hb:=h.ltb
 have hp:Plain w x.a x.n x.cap:=by
  obtain ⟨_,⟨e,_⟩ | ⟨b,cap,cur,e,_,_,hl,_⟩⟩:=h
  ·simp only [Rw.val,Value.slice.injEq] at e
   exact .inl e
  ·simp only [Rw.val,Value.slice.injEq] at e
   obtain ⟨e1,e2,e3⟩:=e
   refine .inr ⟨b,0,e1,(hb b ?_).2,?_⟩
   ·show (Value.slice x.a x.n x.cap).ownBlock=_
    rw [e1];rfl
   ·rw [e2,e3];exact hl
 obtain ⟨a,cap,e,l,h1,h2⟩:=h.slice hc
 simp only [Rw.val,Value.slice.injEq] at e
 obtain ⟨e1,e2,e3⟩:=e
 refine ⟨e2.symm,by rw [e1];exact l,hp,?_⟩
 rw [e2];omega
theorem OwnS.on {w:World} {lo:Nat} {v:Sv} {vs:List Lv} {s:Sy} (h:OwnS w lo v vs s) (hs:qaj s <= 2000000):SysOn w v s:=by
 obtain ⟨t1,t2,t3,t4⟩:=h.t.row qaw
 obtain ⟨g1,g2,g3,g4⟩:=h.g.row qcS
 obtain ⟨f1,f2,f3,f4⟩:=h.f.row qaZ
 obtain ⟨r1,r2,r3,r4⟩:=h.r.row qbL
 obtain ⟨a,cap,e,l1,l2,l3⟩:=h.l.args
 simp only [Rw.val,Value.slice.injEq] at e
 obtain ⟨e1,e2,e3⟩:=e
 rw [<- e1] at l1 l2
 rw [<- e2] at l2 l3
 rw [<- e3] at l2
 exact ⟨⟨t1,t4,t2,e2.symm,l3,l1,g1,g4,g2,f1,f4,Ns.of_lies f2,r1,r4,r2⟩,t3,l2,g3,f3,r3,hs⟩
theorem qnP {v:Sv} {vs:List Lv} (b0 b1 b2 b3 b4 b5:Nat) (h0:∀ b,v.t.val.ownBlock=some b->b0 <= b /\ b < b1) (h1:∀ b,(v.l.val.ownBlock=some b∨∃ x∈vs,x.row.ownBlock=some b)->b1 <= b /\ b < b2)
  (h2:∀ b,v.g.val.ownBlock=some b->b2 <= b /\ b < b3) (h3:∀ b,v.f.val.ownBlock=some b->b3 <= b /\ b < b4) (h4:∀ b,v.r.val.ownBlock=some b->b4 <= b /\ b < b5) (l2:b1 <= b2) (l3:b2 <= b3) (l4:b3 <= b4) :
  ∀ i j b,qah v vs i b->qah v vs j b->i=j:=by
 have key:∀ i b,qah v vs i b->(i=0 /\ b0 <= b /\ b < b1)∨(i=1 /\ b1 <= b /\ b < b2)∨(i=2 /\ b2 <= b /\ b < b3)∨(i=3 /\ b3 <= b /\ b < b4)∨(i=4 /\ b4 <= b /\ b < b5):=by
  intro i b h
  match i,h with
  | 0,h=>exact .inl ⟨rfl,h0 b h⟩
  | 1,h=>exact .inr (.inl ⟨rfl,h1 b h⟩)
  | 2,h=>exact .inr (.inr (.inl ⟨rfl,h2 b h⟩))
  | 3,h=>exact .inr (.inr (.inr (.inl ⟨rfl,h3 b h⟩)))
  | 4,h=>exact .inr (.inr (.inr (.inr ⟨rfl,h4 b h⟩)))
  | n+5,h=>exact h.elim
 intro i j b hi hj
 have:=key i b hi
 have:=key j b hj
 omega
end Go.Proofs.YthpdlbcdbncnhaaGreatDoor
namespace Go.Proofs.YthpdlbcdbncnhaaGreatDoor
set_option maxRecDepth 100000
open Go.RowKit
attribute [local go_sem] Keeps.refl Keeps.alloc Keeps.drew Keeps.drewN
abbrev cc (c:Cl):Array Value:=#[.int .i64 c.kind,.int .i64 c.no,.int .i64 c.cpu,.int .i64 c.a,.int .i64 c.b]
abbrev ck (c:Cl):Value := .agg (cc c)
theorem qiL (c:Cl):(cc c).size=5:=rfl
theorem qnQ (d:Nat) (w:World) (a b:Cl):(Op.equalIn (d+2) 189 (ck a) (ck b)).run Tryz.prog w = .ok (eqC a b) w:=by
 obtain ⟨a0,a1,a2,a3,a4⟩:=a
 obtain ⟨b0,b1,b2,b3,b4⟩:=b
 simp only [eqC]
 rw [run_equalIn_agg _ _ _ _ _ (by kernel_rfl) (by kernel_rfl)]
 go_simp
 by_cases h0:a0=b0
 case neg=>simp only [if_neg h0,beq_eq_false_iff_ne.2 h0,Bool.false_and]
 simp only [if_pos h0,beq_iff_eq.2 h0,Bool.true_and]
 by_cases h1:a1=b1
 case neg=>simp only [if_neg h1,beq_eq_false_iff_ne.2 h1,Bool.false_and]
 simp only [if_pos h1,beq_iff_eq.2 h1,Bool.true_and]
 by_cases h2:a2=b2
 case neg=>simp only [if_neg h2,beq_eq_false_iff_ne.2 h2,Bool.false_and]
 simp only [if_pos h2,beq_iff_eq.2 h2,Bool.true_and]
 by_cases h3:a3=b3
 case neg=>simp only [if_neg h3,beq_eq_false_iff_ne.2 h3,Bool.false_and]
 simp only [if_pos h3,beq_iff_eq.2 h3,Bool.true_and]
 by_cases h4:a4=b4
 case neg=>simp only [if_neg h4,beq_eq_false_iff_ne.2 h4]
 simp only [if_pos h4,beq_iff_eq.2 h4]
theorem qnR (w:World) (a b:Cl):(binOp .eql 189 (ck a) (ck b)).run Tryz.prog w = .ok (.bool (eqC a b)) w:=by
 rw [run_eql_struct,qnQ 9998];rfl
set_option maxHeartbeats 4000000 in
theorem qgm (c:Cl) (w:World) :
  Calls Tryz.prog 214 #[ck c] w fun e w'=>e = .returned (ck (qaX c)) /\ Keeps w w':=by
 cases c1:(c.kind==1)
 rotate_left
 ·have Hr:Hid (qaX c=c):=by show _=_;simp [qaX,c1]
  go_enter Tryz.func214,Tryz.ntmps214
  go_wp2
  exact bodyPost_ret (v:=ck c) (by simp [results,Tryz.results214,go_sem]) rfl ⟨by rw [Hr.out],by repeat (first | exact Keeps.refl _ | refine Keeps.setCell ?_ (by simp) _ | refine Keeps.alloc ?_ _ | refine Keeps.drewN ?_ _)⟩
 cases c2:(c.kind==2)
 rotate_left
 ·have Hr:Hid (qaX c=c):=by show _=_;simp [qaX,c1,c2]
  go_enter Tryz.func214,Tryz.ntmps214
  go_wp2
  exact bodyPost_ret (v:=ck c) (by simp [results,Tryz.results214,go_sem]) rfl ⟨by rw [Hr.out],by repeat (first | exact Keeps.refl _ | refine Keeps.setCell ?_ (by simp) _ | refine Keeps.alloc ?_ _ | refine Keeps.drewN ?_ _)⟩
 cases c3:(c.kind==3)
 rotate_left
 ·have Hr:Hid (qaX c={ c with b:=0 }):=by show _=_;simp [qaX,c1,c2,c3]
  go_enter Tryz.func214,Tryz.ntmps214
  go_wp2
  exact bodyPost_ret (v:=ck { c with b:=0 }) (by simp [results,Tryz.results214,go_sem]) rfl ⟨by rw [Hr.out],by repeat (first | exact Keeps.refl _ | refine Keeps.setCell ?_ (by simp) _ | refine Keeps.alloc ?_ _ | refine Keeps.drewN ?_ _)⟩
 cases c4:(c.kind==4)
 rotate_left
 ·have Hr:Hid (qaX c={ c with cpu:=0,a:=0,b:=0 }):=by show _=_;simp [qaX,c1,c2,c3,c4]
  go_enter Tryz.func214,Tryz.ntmps214
  go_wp2
  exact bodyPost_ret (v:=ck { c with cpu:=0,a:=0,b:=0 }) (by simp [results,Tryz.results214,go_sem]) rfl ⟨by rw [Hr.out],by repeat (first | exact Keeps.refl _ | refine Keeps.setCell ?_ (by simp) _ | refine Keeps.alloc ?_ _ | refine Keeps.drewN ?_ _)⟩
 cases c5:(c.kind==5)
 rotate_left
 ·have Hr:Hid (qaX c={ c with cpu:=0,a:=0,b:=0 }):=by show _=_;simp [qaX,c1,c2,c3,c4,c5]
  go_enter Tryz.func214,Tryz.ntmps214
  go_wp2
  exact bodyPost_ret (v:=ck { c with cpu:=0,a:=0,b:=0 }) (by simp [results,Tryz.results214,go_sem]) rfl ⟨by rw [Hr.out],by repeat (first | exact Keeps.refl _ | refine Keeps.setCell ?_ (by simp) _ | refine Keeps.alloc ?_ _ | refine Keeps.drewN ?_ _)⟩
 cases c6:(c.kind==6)
 rotate_left
 ·have Hr:Hid (qaX c={ c with cpu:=0,a:=0,b:=0 }):=by show _=_;simp [qaX,c1,c2,c3,c4,c5,c6]
  go_enter Tryz.func214,Tryz.ntmps214
  go_wp2
  exact bodyPost_ret (v:=ck { c with cpu:=0,a:=0,b:=0 }) (by simp [results,Tryz.results214,go_sem]) rfl ⟨by rw [Hr.out],by repeat (first | exact Keeps.refl _ | refine Keeps.setCell ?_ (by simp) _ | refine Keeps.alloc ?_ _ | refine Keeps.drewN ?_ _)⟩
 cases c7:(c.kind==7)
 rotate_left
 ·have Hr:Hid (qaX c={ c with cpu:=0,b:=0 }):=by show _=_;simp [qaX,c1,c2,c3,c4,c5,c6,c7]
  go_enter Tryz.func214,Tryz.ntmps214
  go_wp2
  exact bodyPost_ret (v:=ck { c with cpu:=0,b:=0 }) (by simp [results,Tryz.results214,go_sem]) rfl ⟨by rw [Hr.out],by repeat (first | exact Keeps.refl _ | refine Keeps.setCell ?_ (by simp) _ | refine Keeps.alloc ?_ _ | refine Keeps.drewN ?_ _)⟩
 cases c8:(c.kind==8)
 rotate_left
 ·have Hr:Hid (qaX c={ c with cpu:=0,b:=0 }):=by show _=_;simp [qaX,c1,c2,c3,c4,c5,c6,c7,c8]
  go_enter Tryz.func214,Tryz.ntmps214
  go_wp2
  exact bodyPost_ret (v:=ck { c with cpu:=0,b:=0 }) (by simp [results,Tryz.results214,go_sem]) rfl ⟨by rw [Hr.out],by repeat (first | exact Keeps.refl _ | refine Keeps.setCell ?_ (by simp) _ | refine Keeps.alloc ?_ _ | refine Keeps.drewN ?_ _)⟩
 cases c9:(c.kind==9)
 rotate_left
 ·have Hr:Hid (qaX c={ c with cpu:=0,b:=0 }):=by show _=_;simp [qaX,c1,c2,c3,c4,c5,c6,c7,c8,c9]
  go_enter Tryz.func214,Tryz.ntmps214
  go_wp2
  exact bodyPost_ret (v:=ck { c with cpu:=0,b:=0 }) (by simp [results,Tryz.results214,go_sem]) rfl ⟨by rw [Hr.out],by repeat (first | exact Keeps.refl _ | refine Keeps.setCell ?_ (by simp) _ | refine Keeps.alloc ?_ _ | refine Keeps.drewN ?_ _)⟩
 cases c10:(c.kind==10)
 rotate_left
 ·have Hr:Hid (qaX c={ c with a:=0,b:=0 }):=by show _=_;simp [qaX,c1,c2,c3,c4,c5,c6,c7,c8,c9,c10]
  go_enter Tryz.func214,Tryz.ntmps214
  go_wp2
  exact bodyPost_ret (v:=ck { c with a:=0,b:=0 }) (by simp [results,Tryz.results214,go_sem]) rfl ⟨by rw [Hr.out],by repeat (first | exact Keeps.refl _ | refine Keeps.setCell ?_ (by simp) _ | refine Keeps.alloc ?_ _ | refine Keeps.drewN ?_ _)⟩
 cases c11:(c.kind==11)
 rotate_left
 ·have Hr:Hid (qaX c={ c with no:=0,cpu:=0,b:=0 }):=by show _=_;simp [qaX,c1,c2,c3,c4,c5,c6,c7,c8,c9,c10,c11]
  go_enter Tryz.func214,Tryz.ntmps214
  go_wp2
  exact bodyPost_ret (v:=ck { c with no:=0,cpu:=0,b:=0 }) (by simp [results,Tryz.results214,go_sem]) rfl ⟨by rw [Hr.out],by repeat (first | exact Keeps.refl _ | refine Keeps.setCell ?_ (by simp) _ | refine Keeps.alloc ?_ _ | refine Keeps.drewN ?_ _)⟩
 have Hr:Hid (qaX c=c):=by show _=_;simp [qaX,c1,c2,c3,c4,c5,c6,c7,c8,c9,c10,c11]
 go_enter Tryz.func214,Tryz.ntmps214
 go_wp2
 exact bodyPost_ret (v:=ck c) (by simp [results,Tryz.results214,go_sem]) rfl ⟨by rw [Hr.out],by repeat (first | exact Keeps.refl _ | refine Keeps.setCell ?_ (by simp) _ | refine Keeps.alloc ?_ _ | refine Keeps.drewN ?_ _)⟩
end Go.Proofs.YthpdlbcdbncnhaaGreatDoor
namespace Go.Proofs.YthpdlbcdbncnhaaGreatDoor
set_option maxRecDepth 100000
open Go.RowKit
attribute [local go_sem] Keeps.refl Keeps.alloc Keeps.drew Keeps.drewN
attribute [local go_sem high] qnR
set_option maxHeartbeats 2000000 in
theorem qnS (c:Cl) (w:World) :
  Calls Tryz.prog 182 #[ck c] w fun e w'=>e = .returned (.bool (qdb c)) /\ Keeps w w':=by
 have kW:Keeps w (w.alloc (.cells (cc c) 189)):=(Keeps.refl _).alloc _
 have r1:=blkR w (cc c) 189
 cases b:inB c.kind 1 11
 ·have Hr:Hid (qdb c=false):=by show _=_;simp [qdb,b]
  go_enter Tryz.func182,Tryz.ntmps182
  go_wp2_with fail
  generalize w.alloc (.cells (cc c) 189)=W at *
  refine wp_region_held_drew (S:=(fun w'=>Keeps W w')) (by kernel_rfl) ?_ (fun hHeld => ?_)
  ·exact (Keeps.refl W).drew
  refine Plan.go [0,1] ?_
  iterate 2 (refine qac (by simp only [qab];rfl) (by kernel_rfl) (by exact fun _ _ _ h=>h) (by rfl) (by assumption) (fun w _=>by go_simp;try (with_reducible rfl)) ?_;try simp only [qaa])
  refine Plan.nil ?_
  refine qad 2 (by kernel_rfl) (by simp only [qab];rfl) (fun K hK => ?_)
  go_simp
  first
   | (go_at_call 64;refine (qaf _ _ _ _).mono ?_;rintro e w' ⟨rfl,hw1⟩;have hw2:=hw1.symm;subst hw2;rw [b])
   | (go_at_call 214;refine (qgm c _).mono ?_;rintro e w1 ⟨rfl,k1⟩)
  try go_wp2_with fail
  refine hK.out _ _ ?_ (fun hHeld => ?_)
  ·first | assumption | exact Keeps.trans (by assumption) (by assumption)
  clear hK K
  try simp only [qaa]
  refine qan 3 (v := ?_) (by simp only [qab];rfl) (by kernel_rfl) (by exact fun _ _ _ h=>h) (by rfl) (by assumption) ?_ ?_
  rotate_left
  ·(intro w _;go_simp;try (with_reducible rfl))
  try simp only [qaa]
  refine Plan.go [4,5,6,7] ?_
  iterate 4 (refine qaq (by simp only [qab];rfl) (by kernel_rfl) (by exact fun _ _ _ h=>h) (by rfl) (by assumption) ?_;try simp only [qaa])
  refine Plan.nil ?_
  refine Plan.go [8,9] ?_
  iterate 2 (refine qac (by simp only [qab];rfl) (by kernel_rfl) (by exact fun _ _ _ h=>h) (by rfl) (by assumption) (fun w _=>by go_simp;try (with_reducible rfl)) ?_;try simp only [qaa])
  refine Plan.nil ?_
  refine wpAnyH_done (by kernel_rfl) ?_ _
  go_wp2
  go_ret
  exact ⟨by rw [Hr.out];rfl,kW.trans (by assumption)⟩
 ·have Hr:Hid (qdb c=eqC c (qaX c)):=by show _=_;simp [qdb,b]
  go_enter Tryz.func182,Tryz.ntmps182
  go_wp2_with fail
  generalize w.alloc (.cells (cc c) 189)=W at *
  refine wp_region_held_drew (S:=(fun w'=>Keeps W w')) (by kernel_rfl) ?_ (fun hHeld => ?_)
  ·exact (Keeps.refl W).drew
  refine Plan.go [0,1] ?_
  iterate 2 (refine qac (by simp only [qab];rfl) (by kernel_rfl) (by exact fun _ _ _ h=>h) (by rfl) (by assumption) (fun w _=>by go_simp;try (with_reducible rfl)) ?_;try simp only [qaa])
  refine Plan.nil ?_
  refine qad 2 (by kernel_rfl) (by simp only [qab];rfl) (fun K hK => ?_)
  go_simp
  first
   | (go_at_call 64;refine (qaf _ _ _ _).mono ?_;rintro e w' ⟨rfl,hw1⟩;have hw2:=hw1.symm;subst hw2;rw [b])
   | (go_at_call 214;refine (qgm c _).mono ?_;rintro e w1 ⟨rfl,k1⟩)
  try go_wp2_with fail
  refine hK.out _ _ ?_ (fun hHeld => ?_)
  ·first | assumption | exact Keeps.trans (by assumption) (by assumption)
  clear hK K
  try simp only [qaa]
  refine Plan.go [3,4,5] ?_
  iterate 3 (refine qac (by simp only [qab];rfl) (by kernel_rfl) (by exact fun _ _ _ h=>h) (by rfl) (by assumption) (fun w _=>by go_simp;try (with_reducible rfl)) ?_;try simp only [qaa])
  refine Plan.nil ?_
  refine qad 6 (by kernel_rfl) (by simp only [qab];rfl) (fun K hK => ?_)
  go_simp
  first
   | (go_at_call 64;refine (qaf _ _ _ _).mono ?_;rintro e w' ⟨rfl,hw1⟩;have hw2:=hw1.symm;subst hw2;rw [b])
   | (go_at_call 214;refine (qgm c _).mono ?_;rintro e w1 ⟨rfl,k1⟩)
  try go_wp2_with fail
  refine hK.out _ _ ?_ (fun hHeld => ?_)
  ·first | assumption | exact Keeps.trans (by assumption) (by assumption)
  clear hK K
  try simp only [qaa]
  refine Plan.go [7,8,9] ?_
  iterate 3 (refine qac (by simp only [qab];rfl) (by kernel_rfl) (by exact fun _ _ _ h=>h) (by rfl) (by assumption) (fun w _=>by go_simp;try (with_reducible rfl)) ?_;try simp only [qaa])
  refine Plan.nil ?_
  refine wpAnyH_done (by kernel_rfl) ?_ _
  go_wp2
  go_ret
  exact ⟨by rw [Hr.out];rfl,kW.trans (by assumption)⟩
end Go.Proofs.YthpdlbcdbncnhaaGreatDoor
namespace Go.Proofs.YthpdlbcdbncnhaaGreatDoor
set_option maxRecDepth 100000
open Go.RowKit
theorem qeV {α:Type} {P:Program} {w:World} {ops:Array Oper} {rest:List Oper} {o:Oper} {a:Act} {Q:Exit->Act->World->Prop} (hgd:o.guard=none) (s x:Operand) (t:TypeId)
  (hop:o.op = .call { callee := .builtin .append,args:=#[s,x],argTypes:=#[t,t] })
  (base:Nat) (e:TypeId) (z:Value) (sz bytes:Nat) (c:α->Array Value) (ht:P.underlying t=some (.slice e)) (hinfo:(P.info? e).map (fun i=>(i.zero,i.size,i.bytes))=some (some z,sz,bytes))
  (hzs:z.cells.size=sz) (hsz:0 < sz) (hc:∀ x,(c x).size=sz) (h1:∀ x,∀ u∈(c x).toList,u.oneCell'=true)
  (v:Value) (hs:a.eval s=v) (hown:Own e sz c w base v []) (hbase:base <= w.heap.size)
  (ys:List α) (r:Rw) (hpl:Plain w r.a r.n r.cap) (hl:Lies sz c w r.a ys) (hn:ys.length=r.n) (hx:a.eval x = .slice r.a r.n r.cap)
  (h63:ys.length <= 2097152) (hbytes:bytes <= 1000)
  (h:∀ v' w',Own e sz c w' base v' ys->w.grownBy w' v.ownBlock->(∀ k,v'.ownBlock=some k->v.ownBlock=some k∨k=w.heap.size)->wpList P ops Q rest (a.put o.dst v') w'):wpList P ops Q (o::rest) a w:=by
 refine wpList_plain hgd fun K hK => ?_
 rcases hpl with ⟨e1,e2,e3⟩ | ⟨b,off,e1,hb,hle⟩
 ·have hy:ys=[]:=List.eq_nil_of_length_eq_zero (hn.trans e2)
  subst hy
  rw [e1,e2,e3] at hx
  obtain ⟨i,hi,hzz⟩:=Option.map_eq_some_iff.1 hinfo
  have hrun:=run_append_owned_none (P:=P) w base t o.type e i sz ht hi v ([]:List α).length (qat c ([]:List α)) hown
  unfold Oper.wp
  simp [execOp,hop,resolve,invoke,builtin,hs,hx,hrun,Result.andThen]
  exact hK _ _ (h v w hown (World.grownBy.refl w v.ownBlock) fun k e => .inl e)
 ·rw [e1,<- hn] at hx
  rw [e1] at hl
  have hb2:(0+ys.length)*bytes <= 140737488355328:=by
   have:ys.length*bytes <= 2097152*1000:=Nat.mul_le_mul h63 hbytes
   rw [Nat.zero_add];omega
  obtain ⟨v',w',hrun,r1,r2,r3⟩:=qe8 (P:=P) w base t o.type e z sz bytes c ht hinfo hzs hsz hc h1 v [] hown hbase ys b off r.cap hl (by simp [maxLen];omega) hb2
  unfold Oper.wp
  simp [execOp,hop,resolve,invoke,builtin,hs,hx,hrun,Result.andThen]
  exact hK _ _ (h v' w' (by simpa using r1) r2 r3)
end Go.Proofs.YthpdlbcdbncnhaaGreatDoor
