/-
  Fixed priorities, as plain functions, and what holds of the
  Deadlines, as plain functions: what a task that wakes, is r
  A list of bytes that comes in as an argument: what its read
  Rows of locks: each has its own row of those that wait.
-/
import Derived.Test.YteagpjlgjfaclaaGreatDoorTaskSpec
import Derived.Test.YteagpjlgjfaclaaGreatDoorPlain1
import Derived.Test.YteagpjlgjfaclaaGreatDoorCur
namespace Go.Proofs.YteagpjlgjfaclaaGreatDoor
section
open Go.RowKit
def ey (t:ar):Bool:=bN t&&t.cls==2
def iH (a b:ar):Bool:=ey a&&ey b&&(if a.prio != b.prio then decide (b.prio < a.prio) else if a.seq != b.seq then decide (a.seq < b.seq) else decide (a.no < b.no))
def jn (t:ar) (seq:Int):Bool:=ey t && !(t.round==0) && !decide (1 < t.left)&&aH seq 0 1000000
def jm (t:ar) (seq:Int):ar:=if ey t && !(t.round==0) then (if decide (1 < t.left) then { t with left:=t.left - 1 } else if aH seq 0 1000000 then { t with left:=t.round,seq:=seq } else t) else t
structure pQ (t:ar):Prop where
 cls:t.cls=2
 no:1 <= t.no /\ t.no <= 1000
 cpu:0 <= t.cpu /\ t.cpu <= 3
 st:1 <= t.st /\ t.st <= 2
 prio:1 <= t.prio /\ t.prio <= 20
 round:0 <= t.round /\ t.round <= 10
 left:min t.round 1 <= t.left /\ t.left <= t.round
 seq:0 <= t.seq /\ t.seq <= 1000000
 none:t.q=0 /\ t.p=0 /\ t.due=0 /\ t.nice=0 /\ t.v=0
theorem Ep (t:ar):ey t=true↔pQ t:=by
 constructor
 ·intro h
  simp only [ey,Bool.and_eq_true,beq_iff_eq] at h
  obtain ⟨h1,h2⟩:=h
  simp [bN,gD,fX,h2,dP,ig,dq] at h1
  obtain ⟨⟨⟨⟨hno,fv⟩,hst⟩,hz⟩,⟨⟨hp,hr⟩,hl⟩,hs⟩:=h1
  exact ⟨h2,by omega,by omega,by omega,by omega,by omega,by omega,by omega,by omega,by omega,by omega,by omega,by omega⟩
 ·rintro ⟨h2,hno,fv,hst,hp,hr,hl,hs,h0,h1,h3,h4,h5⟩
  simp [ey,bN,gD,fX,h2,dP,ig,dq,h0,h1,h3,h4,h5]
  omega
def Kg (t:ar) (seq i:Int):ar:=if i < t.left then { t with left:=t.left - i } else { t with left:=t.round - (i - t.left),seq:=seq }
def cq (t:ar):Bool:=bN t&&t.cls==1
def rh (t:ar) (now:Int):Bool:=decide (t.due <= now)||decide ((t.due - now)*t.q < t.left*t.p)
def og (t:ar) (now:Int):Bool:=cq t&&aH now 0 100000&&rh t now
def iV (t:ar) (now:Int):ar:=if og t now then { t with left:=t.q,due:=now+t.p } else t
def pN (t:ar) (now:Int):Bool:=cq t&&aH now 0 100000&&decide (t.due <= now)
def jk (t:ar) (now:Int):ar:=if pN t now then { t with left:=t.q,due:=t.due+t.p } else t
def qY (t:ar):Bool:=cq t&&decide (0 < t.left)
def kI (t:ar):ar:=if qY t then { t with left:=t.left - 1 } else t
def iB (a b:ar):Bool:=cq a&&cq b&&(decide (a.due < b.due)||a.due==b.due&&decide (a.no < b.no))
def iC (t:ar):Int:=if cq t then t.q else 0
def iD (t:ar):Int:=if cq t then t.p else 0
structure pR (t:ar):Prop where
 cls:t.cls=1
 no:1 <= t.no /\ t.no <= 1000
 cpu:0 <= t.cpu /\ t.cpu <= 3
 st:1 <= t.st /\ t.st <= 2
 p:1 <= t.p /\ t.p <= 40
 q:1 <= t.q /\ t.q <= t.p
 left:0 <= t.left /\ t.left <= t.q
 due:0 <= t.due /\ t.due <= 100040
 none:t.prio=0 /\ t.round=0 /\ t.seq=0 /\ t.nice=0 /\ t.v=0
theorem tq (t:ar):cq t=true↔pR t:=by
 constructor
 ·intro h
  simp only [cq,Bool.and_eq_true,beq_iff_eq] at h
  obtain ⟨h1,h2⟩:=h
  simp [bN,gD,fX,h2,dW,ig,dq,j9] at h1
  obtain ⟨⟨⟨⟨hno,fv⟩,hst⟩,hz⟩,⟨⟨hp,hq⟩,hl⟩,hd⟩:=h1
  exact ⟨h2,by omega,by omega,by omega,by omega,by omega,by omega,by omega,by omega,by omega,by omega,by omega,by omega⟩
 ·rintro ⟨h2,hno,fv,hst,hp,hq,hl,hd,h0,h1,h3,h4,h5⟩
  simp [cq,bN,gD,fX,h2,dW,ig,dq,j9,h0,h1,h3,h4,h5]
  omega
theorem xg {a b A B:Int} (a0:0 <= a) (a1:a <= A) (b0:0 <= b) (b1:b <= B):0 <= a*b /\ a*b <= A*B :=
 ⟨Int.mul_nonneg a0 b0,Int.mul_le_mul a1 b1 b0 (by omega)⟩
end
section
open Go.ChangeShapes Go.WideShapes Go.ChangeAt Go.RowKit
theorem Er {H:Type} {enc:TypeId × Value->H} {W:World} {a:Option Addr} {len cap:Nat} {d:DataW H} {p:List MemPlace}
  (h:DataW.Trod enc Tryz.prog W 0 (fun _=>true) true 22 (.slice a len cap) d p):len <= maxLen /\ ∀ g,W.heap.size <= g->Bytes g W a len:=by
 obtain ⟨fuel,hf⟩:=h
 rcases open_ints Tryz.underlying22 Tryz.underlying5 (by kernel_rfl) hf with ⟨hcs,_⟩ | ⟨x,l,c,zs,hcs,_,hl,hm,hz,_,hcell,hwz⟩
 ·simp [Value.cells] at hcs
  obtain ⟨rfl,rfl,rfl⟩:=hcs
  exact ⟨by simp,fun g _ => .inl rfl⟩
 ·simp [Value.cells] at hcs
  obtain ⟨rfl,rfl,rfl⟩:=hcs
  have hz':zs.length=cap:=by simpa using hz
  refine ⟨by omega,fun g hg => ?_⟩
  by_cases h0:len=0
  ·exact .inl h0
  obtain ⟨b,off,spot⟩:=x
  have hs:spot=none:=by
   have:=World.cell?_spot (hcell 0 (by omega))
   simpa [Addr.add] using this
  subst hs
  have hb:b < W.heap.size:=by
   have:=World.block_lt_of_cell? W _ (hcell 0 (by omega))
   simpa [Addr.add] using this
  refine .inr ⟨b,off,rfl,by omega,fun j hj => ?_⟩
  have hj':j < zs.length:=by omega
  have hw:=hwz (zs.getD j 0) (by simp [hj'])
  have xt:=bounds_u8 hw
  have hc:=hcell j hj'
  have e:(⟨b,off,none⟩:Addr).add j=⟨b,off+j,none⟩:=by
   unfold Addr.add
   by_cases h:j=0 <;> simp [h]
  rw [e] at hc
  exact ⟨_,xt.1,xt.2,hc⟩
end
section
open Go.RowKit
attribute [local go_sem] aa.refl aa.alloc aa.drew aa.drewN
structure Lv where
 o:Int
 a:Option Addr
 n:Nat
 cap:Nat
abbrev Lv.row (x:Lv):Value := .slice x.a x.n x.cap
abbrev fF (x:Lv):Array Value:=#[.int .i64 x.o,.slice x.a x.n x.cap]
theorem gz (x:Lv):(fF x).size=2:=rfl
theorem xu (x:Lv):∀ u∈(fF x).toList,u.oneCell'=true:=by
 intro u hu
 simp at hu
 rcases hu with rfl | rfl <;> rfl
def Plain (w:World) (a:Option Addr) (n cap:Nat):Prop:=(a=none /\ n=0 /\ cap=0)∨∃ b off,a=some ⟨b,off,none⟩ /\ b < w.heap.size /\ n <= cap
theorem Plain.keeps {w w':World} {a:Option Addr} {n cap:Nat} (h:Plain w a n cap) (k:aa w w'):Plain w' a n cap:=by
 rcases h with h | ⟨b,off,h1,h2,h3⟩
 ·exact .inl h
 ·exact .inr ⟨b,off,h1,Nat.lt_of_lt_of_le h2 k.size,h3⟩
structure Fits (p:Bool) (w:World) (x:Lv) (l:Lk):Prop where
 o:x.o=l.owner
 n:x.n=l.waits.length
 le:l.waits.length <= maxLen
 ns:Ns w x.a l.waits
 pl:p=true->Plain w x.a x.n x.cap
def dL (p:Bool) (w:World) (a:Option Addr) (ls:List Lk):Prop:=∃ vs:List Lv,vs.length=ls.length /\ cm 2 fF w a vs /\ ∀ (i:Nat) (x:Lv) (l:Lk),vs[i]?=some x->ls[i]?=some l->Fits p w x l
theorem dL.keeps {p:Bool} {w w':World} {a:Option Addr} {ls:List Lk} (h:dL p w a ls) (k:aa w w'):dL p w' a ls:=by
 obtain ⟨vs,h1,h2,h3⟩:=h
 exact ⟨vs,h1,h2.keeps k,fun i x l hx hl=>⟨(h3 i x l hx hl).o,(h3 i x l hx hl).n,(h3 i x l hx hl).le,(h3 i x l hx hl).ns.keeps k,fun e=>((h3 i x l hx hl).pl e).keeps k⟩⟩
theorem dL.xv {p:Bool} {w:World} {a:Option Addr} {ls:List Lk} (h:dL p w a ls) {i:Nat} {l:Lk} (hl:ls[i]?=some l) :
  ∃ b off a' cap,a=some ⟨b,off,none⟩ /\ (∀ w',aa w w'->w'.cell? ⟨b,off+i*2,none⟩=some (.int .i64 l.owner)) /\ (∀ w',aa w w'->w'.cell? ⟨b,off+i*2+1,none⟩=some (.slice a' l.waits.length cap)) /\ l.waits.length <= maxLen /\ Ns w a' l.waits /\ (p=true->Plain w a' l.waits.length cap):=by
 obtain ⟨vs,h1,h2,h3⟩:=h
 obtain ⟨x,hx⟩:=cd (xs:=vs) (k:=i) (by rw [h1];exact cZ hl)
 obtain ⟨b,off,rfl,r0,r1⟩:=h2.at hx (by omega)
 have F:=h3 i x l hx hl
 refine ⟨b,off,x.a,x.cap,rfl,fun w' k => ?_,fun w' k => ?_,F.le,F.ns,fun e=>by have:=F.pl e;rw [F.n] at this;exact this⟩
 ·rw [r0 w' k,<- F.o];rfl
 ·rw [r1 w' k 1 (by omega),<- F.n];rfl
theorem dL.at {p:Bool} {w:World} {a:Option Addr} {ls:List Lk} (h:dL p w a ls) {i:Nat} {l:Lk} (hl:ls[i]?=some l) :
  ∃ b off a' cap,a=some ⟨b,off,none⟩ /\ (∀ w',aa w w'->w'.cell? ⟨b,off+i*2,none⟩=some (.int .i64 l.owner)) /\ (∀ w',aa w w'->w'.cell? ⟨b,off+i*2+1,none⟩=some (.slice a' l.waits.length cap)) /\ l.waits.length <= maxLen /\ Ns w a' l.waits:=by
 obtain ⟨b,off,a',cap,e,r0,r1,h1,h2,-⟩:=h.xv hl
 exact ⟨b,off,a',cap,e,r0,r1,h1,h2⟩
theorem dL.nil (p:Bool) (w:World) (a:Option Addr):dL p w a []:=⟨[],rfl,.inl rfl,fun i x l h=>by simp at h⟩
theorem Own.same {α:Type} {e:TypeId} {sz:Nat} {c:α->Array Value} {w w':World} {base:Nat} {v:Value} {xs:List α} (h:Own e sz c w base v xs) (k:∀ b,v.ownBlock=Option.some b->w'.heap[b]?=w.heap[b]?):Own e sz c w' base v xs:=by
 obtain ⟨h1,h2⟩:=h
 refine ⟨h1,?_⟩
 rcases h2 with h2 | ⟨b,cap,cur,rfl,hb,hh,r⟩
 ·exact .inl h2
 ·refine .inr ⟨b,cap,cur,rfl,hb,?_,r⟩
  rw [k b rfl];exact hh
theorem Own.cr {α:Type} {e:TypeId} {sz:Nat} {c:α->Array Value} {w:World} {base:Nat} {v:Value} {xs:List α} (h:Own e sz c w base v xs):∀ b,v.ownBlock=Option.some b->base <= b /\ b < w.heap.size:=World.ownsRow.lt h
structure Mine (w:World) (lo hi:Nat) (v:Value) (vs:List Lv) (ls:List Lk):Prop where
 len:vs.length=ls.length
 own:Own 37 2 fF w lo v vs
 out:∀ b,v.ownBlock=some b->b < hi
 rows:∀ (i:Nat) (x:Lv) (l:Lk),vs[i]?=some x->ls[i]?=some l->x.o=l.owner /\ aS w lo x.row l.waits
 fx:∀ (i:Nat) (x:Lv) (b:Nat),vs[i]?=some x->x.row.ownBlock=some b->b < hi /\ v.ownBlock≠some b
 apart:∀ (i j:Nat) (x y:Lv) (b:Nat),vs[i]?=some x->vs[j]?=some y->x.row.ownBlock=some b->y.row.ownBlock=some b->i=j
theorem Mine.same {w w':World} {lo hi:Nat} {v:Value} {vs:List Lv} {ls:List Lk} (h:Mine w lo hi v vs ls) (k:∀ b,lo <= b->b < hi->b < w.heap.size->w'.heap[b]?=w.heap[b]?):Mine w' lo hi v vs ls:=by
 refine ⟨h.len,h.own.same fun b hb=>k b (h.own.cr b hb).1 (h.out b hb) (h.own.cr b hb).2,h.out,fun i x l hx hl => ?_,h.fx,h.apart⟩
 obtain ⟨h1,h2⟩:=h.rows i x l hx hl
 exact ⟨h1,h2.same fun b hb=>k b (h2.cr b hb).1 (h.fx i x b hx hb).1 (h2.cr b hb).2⟩
theorem Mine.keeps {w w':World} {lo hi:Nat} {v:Value} {vs:List Lv} {ls:List Lk} (h:Mine w lo hi v vs ls) (k:aa w w'):Mine w' lo hi v vs ls:=h.same fun b _ _ hb=>Below.block k b hb
theorem Mine.widen {w:World} {lo lZ hi hi':Nat} {v:Value} {vs:List Lv} {ls:List Lk} (h:Mine w lo hi v vs ls) (h1:lZ <= lo) (h2:hi <= hi'):Mine w lZ hi' v vs ls :=
 ⟨h.len,h.own.base h1,fun b hb=>Nat.lt_of_lt_of_le (h.out b hb) h2,fun i x l hx hl=>⟨(h.rows i x l hx hl).1,(h.rows i x l hx hl).2.base h1⟩,fun i x b hx hb=>⟨Nat.lt_of_lt_of_le (h.fx i x b hx hb).1 h2,(h.fx i x b hx hb).2⟩,h.apart⟩
theorem Mine.gT {w:World} {lo hi:Nat} {v:Value} {vs:List Lv} {ls:List Lk} (h:Mine w lo hi v vs ls):∃ a cap,v = .slice a ls.length cap /\ dL true w a ls /\ ls.length <= maxLen:=by
 obtain ⟨a,cap,rfl,l,h1,h2⟩:=h.own.slice gz
 have hle:=h.len
 refine ⟨a,cap,by rw [h.len],⟨vs,h.len,l,fun i x l hx hl => ?_⟩,by omega⟩
 obtain ⟨r1,r2⟩:=h.rows i x l hx hl
 have r2':=r2
 obtain ⟨a',cap',e,ns,l1,l2⟩:=r2.ns
 simp only [Value.slice.injEq] at e
 obtain ⟨rfl,e2,rfl⟩:=e
 refine ⟨r1,e2,by omega,ns,fun _ => ?_⟩
 obtain ⟨_,⟨e3,hn⟩ | ⟨b',cp,cur,e3,_⟩⟩:=r2
 ·simp only [Value.slice.injEq] at e3
  exact .inl e3
 ·have h3:=(Own.cr r2' b' (by rw [e3];rfl)).2
  simp only [Value.slice.injEq] at e3
  exact .inr ⟨b',0,e3.1,h3,by omega⟩
theorem Mine.args {w:World} {lo hi:Nat} {v:Value} {vs:List Lv} {ls:List Lk} (h:Mine w lo hi v vs ls):∃ a cap,v = .slice a ls.length cap /\ dL true w a ls /\ Plain w a ls.length cap /\ ls.length <= maxLen:=by
 obtain ⟨a,cap,e,l,hm⟩:=h.gT
 refine ⟨a,cap,e,l,?_,hm⟩
 have O:=h.own
 obtain ⟨_,⟨e3,hn⟩ | ⟨b',cp,cur,e3,_,_,hc,_⟩⟩:=O
 ·rw [e] at e3
  simp only [Value.slice.injEq] at e3
  exact .inl e3
 ·have h3:=(Own.cr h.own b' (by rw [e3];rfl)).2
  rw [e] at e3
  simp only [Value.slice.injEq] at e3
  exact .inr ⟨b',0,e3.1,h3,by have:=h.len;omega⟩
structure Within (lo hi:Nat) (w w':World):Prop where
 os:w'.os=w.os
 tape:w'.tape=w.tape
 output:w'.output=w.output
 size:w.heap.size <= w'.heap.size
 block:∀ b,b < w.heap.size->(b < lo∨hi <= b)->w'.heap[b]?=w.heap[b]?
theorem Within.refl (lo hi:Nat) (w:World):Within lo hi w w:=⟨rfl,rfl,rfl,Nat.le_refl _,fun _ _ _=>rfl⟩
theorem Within.trans {lo hi:Nat} {a b c:World} (h:Within lo hi a b) (k:Within lo hi b c):Within lo hi a c :=
 ⟨k.os.trans h.os,k.tape.trans h.tape,k.output.trans h.output,Nat.le_trans h.size k.size,fun i hi' ho=>(k.block i (Nat.lt_of_lt_of_le hi' h.size) ho).trans (h.block i hi' ho)⟩
theorem Within.keeps {lo hi:Nat} {w0 w w':World} (h:Within lo hi w w') (k:aa w0 w) (hl:w0.heap.size <= lo):aa w0 w' :=
 Below.trans k ⟨h.os,h.tape,h.output,h.size,fun i hi'=>h.block i (Nat.lt_of_lt_of_le hi' k.size) (.inl (Nat.lt_of_lt_of_le hi' hl))⟩
theorem Within.grown {lo hi:Nat} {w w':World} {row:Option Nat} (h:w.grownBy w' row) (hr:∀ b,row=some b->lo <= b /\ b < hi):Within lo hi w w' :=
 ⟨h.os,h.tape,h.output,h.size,fun i hi' ho=>h.block i hi' fun e=>by have:=hr i e.symm;omega⟩
theorem Within.mine {lo hi lZ hi':Nat} {w w':World} {v:Value} {vs:List Lv} {ls:List Lk} (h:Within lZ hi' w w') (m:Mine w lo hi v vs ls) (ho:hi <= lZ∨hi' <= lo):Mine w' lo hi v vs ls :=
 m.same fun b h1 h2 h3=>h.block b h3 (by omega)
theorem xw {α:Type} {c:α->Array Value} {sz:Nat} (hc:∀ x,(c x).size=sz):∀ (xs:List α) (i:Nat) (x y:α) (j:Nat) (u:Value),xs[i]?=some x->j < sz->(c y).toList=(c x).toList.set j u->aV c (xs.set i y)=(aV c xs).set (i*sz+j) u
 | [],i,x,y,j,u,h,_,_=>by simp at h
 | z::r,0,x,y,j,u,h,hj,hy=>by
  simp at h
  subst h
  show (c y).toList++aV c r=((c z).toList++aV c r).set (0*sz+j) u
  rw [Nat.zero_mul,Nat.zero_add,List.set_append_left _ _ (by simp [hc,hj]),hy]
 | z::r,i+1,x,y,j,u,h,hj,hy=>by
  have ih:=xw hc r i x y j u (by simpa using h) hj hy
  show (c z).toList++aV c (r.set i y)=((c z).toList++aV c r).set ((i+1)*sz+j) u
  rw [ih,List.set_append_right _ _ (by simp only [Array.length_toList,hc,Nat.add_mul,Nat.one_mul];omega)]
  congr 2
  simp only [Array.length_toList,hc,Nat.add_mul,Nat.one_mul]
  omega
theorem Own.setAt {α:Type} {e:TypeId} {sz:Nat} {c:α->Array Value} {w:World} {base b n cap:Nat} {xs:List α} (h:Own e sz c w base (.slice (Option.some ⟨b,0,none⟩) n cap) xs) (hc:∀ x,(c x).size=sz) {i j:Nat} {x y:α} {u:Value} (hx:xs[i]?=Option.some x) (hj:j < sz) (hy:(c y).toList=(c x).toList.set j u) :
  Own e sz c (w.setCell ⟨b,i*sz+j,none⟩ u) base (.slice (Option.some ⟨b,0,none⟩) n cap) (xs.set i y):=by
 have hn:n=xs.length:=by
  obtain ⟨_,⟨e,_⟩ | ⟨b',cp,cur,e,_⟩⟩:=h
  ·simp at e
  ·simp only [Value.slice.injEq] at e;exact e.2.1
 subst hn
 have:=(World.ownsRow.stored h (i*sz+j) u).1
 unfold Own
 rw [xw hc xs i x y j u hx hj hy,List.length_set]
 exact this
theorem Own.blk {α:Type} {e:TypeId} {sz:Nat} {c:α->Array Value} {w:World} {base:Nat} {v:Value} {xs:List α} (h:Own e sz c w base v xs) (hx:0 < xs.length):∃ b cap,v = .slice (Option.some ⟨b,0,none⟩) xs.length cap:=by
 obtain ⟨_,⟨e,hn⟩ | ⟨b',cp,cur,e,_⟩⟩:=h
 ·omega
 ·exact ⟨b',cp,e⟩
theorem Own.cellAt {α:Type} {e:TypeId} {sz:Nat} {c:α->Array Value} {w:World} {base b cap:Nat} {xs:List α} (h:Own e sz c w base (.slice (Option.some ⟨b,0,none⟩) xs.length cap) xs) (hc:∀ x,(c x).size=sz) {i k:Nat} {x:α} (hx:xs[i]?=Option.some x) (hk:k < sz):w.cell? ⟨b,i*sz+k,none⟩=(c x)[k]?:=by
 have hi:=cZ hx
 have:i*sz+k < xs.length*sz:=by
  have h1:(i+1)*sz <= xs.length*sz:=Nat.mul_le_mul_right sz hi
  rw [Nat.add_mul,Nat.one_mul] at h1
  omega
 rw [World.ownsRow.cellAt h _ this,qc6 hc xs i x hx k hk]
theorem Own.frozenAt {α:Type} {e:TypeId} {sz:Nat} {c:α->Array Value} {w:World} {base b cap:Nat} {xs:List α} (h:Own e sz c w base (.slice (Option.some ⟨b,0,none⟩) xs.length cap) xs) (k:Nat):w.frozen? ⟨b,k,none⟩=false:=World.ownsRow.frozenAt h k
theorem gA {w:World} {b o:Nat} {u:Value} {k:Nat} (h:k≠b):(w.setCell ⟨b,o,none⟩ u).heap[k]?=w.heap[k]?:=Below.heap_setCell _ _ _ _ h
theorem kc {α:Type} {xs:List α} {k i:Nat} {x y:α} (h:(xs.set k y)[i]?=some x):(i=k /\ x=y)∨(i≠k /\ xs[i]?=some x):=by
 by_cases e:k=i
 ·subst e
  have hl:k < xs.length:=by have:=cZ h;simpa using this
  rw [List.getElem?_set_self hl] at h
  cases h;exact .inl ⟨rfl,rfl⟩
 ·rw [List.getElem?_set_ne e] at h
  exact .inr ⟨Ne.symm e,h⟩
theorem Mine.eL {w:World} {lo hi b cap:Nat} {vs:List Lv} {ls:List Lk} (h:Mine w lo hi (.slice (some ⟨b,0,none⟩) vs.length cap) vs ls) {k:Nat} {x:Lv} {l:Lk} (hx:vs[k]?=some x) (hl:ls[k]?=some l) (c:Int) :
  Mine (w.setCell ⟨b,k*2,none⟩ (.int .i64 c)) lo hi (.slice (some ⟨b,0,none⟩) (vs.set k { x with o:=c }).length cap) (vs.set k { x with o:=c }) (ls.set k { l with owner:=c }):=by
 refine ⟨by simp [h.len],?_,h.out,?_,?_,?_⟩
 ·have:=h.own.setAt gz (i:=k) (j:=0) (x:=x) (y:={ x with o:=c }) (u := .int .i64 c) hx (by omega) rfl
  simpa using this
 ·intro i y m hy hm
  have key:∀ u:Lv,(∀ b',u.row.ownBlock=some b'->b'≠b)->∀ ws,aS w lo u.row ws->aS (w.setCell ⟨b,k*2,none⟩ (.int .i64 c)) lo u.row ws:=fun u hu ws ho=>ho.same fun b' hb'=>gA (hu b' hb')
  have hne:∀ (j:Nat) (u:Lv),vs[j]?=some u->∀ b',u.row.ownBlock=some b'->b'≠b:=fun j u hu b' hb' e=>(h.fx j u b' hu hb').2 (by rw [e];rfl)
  rcases kc hy with ⟨rfl,rfl⟩ | ⟨hik,hy⟩ <;> rcases kc hm with ⟨h1,rfl⟩ | ⟨h1,hm⟩
  ·exact ⟨rfl,key x (hne i x hx) _ (h.rows i x l hx hl).2⟩
  ·exact absurd rfl h1
  ·exact absurd h1 hik
  ·exact ⟨(h.rows i y m hy hm).1,key y (hne i y hy) _ (h.rows i y m hy hm).2⟩
 ·intro i y b' hy hb'
  rcases kc hy with ⟨rfl,rfl⟩ | ⟨_,hy⟩
  ·exact h.fx i x b' hx hb'
  ·exact h.fx i y b' hy hb'
 ·intro i j y z b' hy hz e1 e2
  rcases kc hy with ⟨rfl,rfl⟩ | ⟨_,hy2⟩ <;> rcases kc hz with ⟨rfl,rfl⟩ | ⟨_,hz2⟩
  ·rfl
  ·exact h.apart i j x z b' hx hz2 e1 e2
  ·exact h.apart i j y x b' hy2 hx e1 e2
  ·exact h.apart i j y z b' hy2 hz2 e1 e2
theorem Mine.turned {w w':World} {lo hi:Nat} {v:Value} {vs:List Lv} {ls:List Lk} (h:Mine w lo hi v vs ls) {k:Nat} {x:Lv} {l:Lk} (hx:vs[k]?=some x) (hl:ls[k]?=some l) {ws:List Int} (g:w.grownBy w' x.row.ownBlock) (ho:aS w' lo x.row ws) :
  Mine w' lo hi v vs (ls.set k { l with waits:=ws }):=by
 refine ⟨by simp [h.len],h.own.same fun b hb=>g.block b (h.own.cr b hb).2 (fun e=>(h.fx k x b hx e.symm).2 hb),h.out,?_,h.fx,h.apart⟩
 intro i y m hy hm
 rcases kc hm with ⟨rfl,rfl⟩ | ⟨h1,hm⟩
 ·rw [hx] at hy
  cases hy
  exact ⟨(h.rows i x l hx hl).1,ho⟩
 ·obtain ⟨r1,r2⟩:=h.rows i y m hy hm
  exact ⟨r1,r2.same fun b hb=>g.block b (r2.cr b hb).2 (fun e=>h1 (h.apart i k y x b hy hx hb e.symm))⟩
end
end Go.Proofs.YteagpjlgjfaclaaGreatDoor
