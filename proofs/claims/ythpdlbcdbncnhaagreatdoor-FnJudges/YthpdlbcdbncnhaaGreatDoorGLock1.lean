/-
  Rows of locks: each has its own row of those that wait. Row
-/
import Derived.Test.YthpdlbcdbncnhaaGreatDoorGBase2
import Derived.Test.YthpdlbcdbncnhaaGreatDoorGBase1
import Derived.Deep.RegionHeld3
namespace Go.Proofs.YthpdlbcdbncnhaaGreatDoor
set_option maxRecDepth 100000
open Go.RowKit
attribute [local go_sem] Keeps.refl Keeps.alloc Keeps.drew Keeps.drewN
structure Lv where
 o:Int
 a:Option Addr
 n:Nat
 cap:Nat
abbrev Lv.row (x:Lv):Value := .slice x.a x.n x.cap
abbrev lvc (x:Lv):Array Value:=#[.int .i64 x.o,.slice x.a x.n x.cap]
theorem qby (x:Lv):(lvc x).size=2:=rfl
theorem qhZ (x:Lv):∀ u∈(lvc x).toList,u.oneCell'=true:=by
 intro u hu
 simp at hu
 rcases hu with rfl | rfl <;> rfl
def Plain (w:World) (a:Option Addr) (n cap:Nat):Prop:=(a=none /\ n=0 /\ cap=0)∨∃ b off,a=some ⟨b,off,none⟩ /\ b < w.heap.size /\ n <= cap
theorem Plain.keeps {w w':World} {a:Option Addr} {n cap:Nat} (h:Plain w a n cap) (k:Keeps w w'):Plain w' a n cap:=by
 rcases h with h | ⟨b,off,h1,h2,h3⟩
 ·exact .inl h
 ·exact .inr ⟨b,off,h1,Nat.lt_of_lt_of_le h2 k.size,h3⟩
structure Fits (p:Bool) (w:World) (x:Lv) (l:Lk):Prop where
 o:x.o=l.owner
 n:x.n=l.waits.length
 le:l.waits.length <= maxLen
 ns:Ns w x.a l.waits
 pl:p=true->Plain w x.a x.n x.cap
def Lks (p:Bool) (w:World) (a:Option Addr) (ls:List Lk):Prop:=∃ vs:List Lv,vs.length=ls.length /\ Lies 2 lvc w a vs /\ ∀ (i:Nat) (x:Lv) (l:Lk),vs[i]?=some x->ls[i]?=some l->Fits p w x l
theorem Lks.keeps {p:Bool} {w w':World} {a:Option Addr} {ls:List Lk} (h:Lks p w a ls) (k:Keeps w w'):Lks p w' a ls:=by
 obtain ⟨vs,h1,h2,h3⟩:=h
 exact ⟨vs,h1,h2.keeps k,fun i x l hx hl=>⟨(h3 i x l hx hl).o,(h3 i x l hx hl).n,(h3 i x l hx hl).le,(h3 i x l hx hl).ns.keeps k,fun e=>((h3 i x l hx hl).pl e).keeps k⟩⟩
theorem Lks.atp {p:Bool} {w:World} {a:Option Addr} {ls:List Lk} (h:Lks p w a ls) {i:Nat} {l:Lk} (hl:ls[i]?=some l) :
  ∃ b off a' cap,a=some ⟨b,off,none⟩ /\ (∀ w',Keeps w w'->w'.cell? ⟨b,off+i*2,none⟩=some (.int .i64 l.owner)) /\ (∀ w',Keeps w w'->w'.cell? ⟨b,off+i*2+1,none⟩=some (.slice a' l.waits.length cap)) /\ l.waits.length <= maxLen /\ Ns w a' l.waits /\ (p=true->Plain w a' l.waits.length cap):=by
 obtain ⟨vs,h1,h2,h3⟩:=h
 obtain ⟨x,hx⟩:=qai (xs:=vs) (k:=i) (by rw [h1];exact qas hl)
 obtain ⟨b,off,rfl,r0,r1⟩:=h2.at hx (by omega)
 have F:=h3 i x l hx hl
 refine ⟨b,off,x.a,x.cap,rfl,fun w' k => ?_,fun w' k => ?_,F.le,F.ns,fun e=>by have:=F.pl e;rw [F.n] at this;exact this⟩
 ·rw [r0 w' k,<- F.o];rfl
 ·rw [r1 w' k 1 (by omega),<- F.n];rfl
theorem Lks.at {p:Bool} {w:World} {a:Option Addr} {ls:List Lk} (h:Lks p w a ls) {i:Nat} {l:Lk} (hl:ls[i]?=some l) :
  ∃ b off a' cap,a=some ⟨b,off,none⟩ /\ (∀ w',Keeps w w'->w'.cell? ⟨b,off+i*2,none⟩=some (.int .i64 l.owner)) /\ (∀ w',Keeps w w'->w'.cell? ⟨b,off+i*2+1,none⟩=some (.slice a' l.waits.length cap)) /\ l.waits.length <= maxLen /\ Ns w a' l.waits:=by
 obtain ⟨b,off,a',cap,e,r0,r1,h1,h2,-⟩:=h.atp hl
 exact ⟨b,off,a',cap,e,r0,r1,h1,h2⟩
theorem Own.same {α:Type} {e:TypeId} {sz:Nat} {c:α->Array Value} {w w':World} {base:Nat} {v:Value} {xs:List α} (h:Own e sz c w base v xs) (k:∀ b,v.ownBlock=Option.some b->w'.heap[b]?=w.heap[b]?):Own e sz c w' base v xs:=by
 obtain ⟨h1,h2⟩:=h
 refine ⟨h1,?_⟩
 rcases h2 with h2 | ⟨b,cap,cur,rfl,hb,hh,r⟩
 ·exact .inl h2
 ·refine .inr ⟨b,cap,cur,rfl,hb,?_,r⟩
  rw [k b rfl];exact hh
theorem Own.ltb {α:Type} {e:TypeId} {sz:Nat} {c:α->Array Value} {w:World} {base:Nat} {v:Value} {xs:List α} (h:Own e sz c w base v xs):∀ b,v.ownBlock=Option.some b->base <= b /\ b < w.heap.size:=World.ownsRow.lt h
structure Mine (w:World) (lo hi:Nat) (v:Value) (vs:List Lv) (ls:List Lk):Prop where
 len:vs.length=ls.length
 own:Own 104 2 lvc w lo v vs
 out:∀ b,v.ownBlock=some b->b < hi
 rows:∀ (i:Nat) (x:Lv) (l:Lk),vs[i]?=some x->ls[i]?=some l->x.o=l.owner /\ OwnN w lo x.row l.waits
 inn:∀ (i:Nat) (x:Lv) (b:Nat),vs[i]?=some x->x.row.ownBlock=some b->b < hi /\ v.ownBlock≠some b
 apart:∀ (i j:Nat) (x y:Lv) (b:Nat),vs[i]?=some x->vs[j]?=some y->x.row.ownBlock=some b->y.row.ownBlock=some b->i=j
theorem Mine.same {w w':World} {lo hi:Nat} {v:Value} {vs:List Lv} {ls:List Lk} (h:Mine w lo hi v vs ls) (k:∀ b,lo <= b->b < hi->b < w.heap.size->w'.heap[b]?=w.heap[b]?):Mine w' lo hi v vs ls:=by
 refine ⟨h.len,h.own.same fun b hb=>k b (h.own.ltb b hb).1 (h.out b hb) (h.own.ltb b hb).2,h.out,fun i x l hx hl => ?_,h.inn,h.apart⟩
 obtain ⟨h1,h2⟩:=h.rows i x l hx hl
 exact ⟨h1,h2.same fun b hb=>k b (h2.ltb b hb).1 (h.inn i x b hx hb).1 (h2.ltb b hb).2⟩
theorem Mine.keeps {w w':World} {lo hi:Nat} {v:Value} {vs:List Lv} {ls:List Lk} (h:Mine w lo hi v vs ls) (k:Keeps w w'):Mine w' lo hi v vs ls:=h.same fun b _ _ hb=>Below.block k b hb
theorem Mine.widen {w:World} {lo lo' hi hi':Nat} {v:Value} {vs:List Lv} {ls:List Lk} (h:Mine w lo hi v vs ls) (h1:lo' <= lo) (h2:hi <= hi'):Mine w lo' hi' v vs ls :=
 ⟨h.len,h.own.base h1,fun b hb=>Nat.lt_of_lt_of_le (h.out b hb) h2,fun i x l hx hl=>⟨(h.rows i x l hx hl).1,(h.rows i x l hx hl).2.base h1⟩,fun i x b hx hb=>⟨Nat.lt_of_lt_of_le (h.inn i x b hx hb).1 h2,(h.inn i x b hx hb).2⟩,h.apart⟩
theorem Mine.lks {w:World} {lo hi:Nat} {v:Value} {vs:List Lv} {ls:List Lk} (h:Mine w lo hi v vs ls):∃ a cap,v = .slice a ls.length cap /\ Lks true w a ls /\ ls.length <= maxLen:=by
 obtain ⟨a,cap,rfl,l,h1,h2⟩:=h.own.slice qby
 have hle:=h.len
 refine ⟨a,cap,by rw [h.len],⟨vs,h.len,l,fun i x l hx hl => ?_⟩,by omega⟩
 obtain ⟨r1,r2⟩:=h.rows i x l hx hl
 have r2':=r2
 obtain ⟨a',cap',e,ns,l1,l2⟩:=r2.ns
 simp only [Value.slice.injEq] at e
 obtain ⟨rfl,e2,rfl⟩:=e
 refine ⟨r1,e2,by omega,ns,fun _ => ?_⟩
 obtain ⟨_,⟨e3,hn⟩ | ⟨b',cp,cur,e3,_⟩⟩:=r2
 ·simp only [Value.slice.injEq] at e3
  exact .inl e3
 ·have h3:=(Own.ltb r2' b' (by rw [e3];rfl)).2
  simp only [Value.slice.injEq] at e3
  exact .inr ⟨b',0,e3.1,h3,by omega⟩
theorem Mine.args {w:World} {lo hi:Nat} {v:Value} {vs:List Lv} {ls:List Lk} (h:Mine w lo hi v vs ls):∃ a cap,v = .slice a ls.length cap /\ Lks true w a ls /\ Plain w a ls.length cap /\ ls.length <= maxLen:=by
 obtain ⟨a,cap,e,l,hm⟩:=h.lks
 refine ⟨a,cap,e,l,?_,hm⟩
 have O:=h.own
 obtain ⟨_,⟨e3,hn⟩ | ⟨b',cp,cur,e3,_,_,hc,_⟩⟩:=O
 ·rw [e] at e3
  simp only [Value.slice.injEq] at e3
  exact .inl e3
 ·have h3:=(Own.ltb h.own b' (by rw [e3];rfl)).2
  rw [e] at e3
  simp only [Value.slice.injEq] at e3
  exact .inr ⟨b',0,e3.1,h3,by have:=h.len;omega⟩
theorem qh0 {α:Type} {c:α->Array Value} {sz:Nat} (hc:∀ x,(c x).size=sz):∀ (xs:List α) (i:Nat) (x y:α) (j:Nat) (u:Value),xs[i]?=some x->j < sz->(c y).toList=(c x).toList.set j u->qat c (xs.set i y)=(qat c xs).set (i*sz+j) u
 | [],i,x,y,j,u,h,_,_=>by simp at h
 | z::r,0,x,y,j,u,h,hj,hy=>by
  simp at h
  subst h
  show (c y).toList++qat c r=((c z).toList++qat c r).set (0*sz+j) u
  rw [Nat.zero_mul,Nat.zero_add,List.set_append_left _ _ (by simp [hc,hj]),hy]
 | z::r,i+1,x,y,j,u,h,hj,hy=>by
  have ih:=qh0 hc r i x y j u (by simpa using h) hj hy
  show (c z).toList++qat c (r.set i y)=((c z).toList++qat c r).set ((i+1)*sz+j) u
  rw [ih,List.set_append_right _ _ (by simp only [Array.length_toList,hc,Nat.add_mul,Nat.one_mul];omega)]
  congr 2
  simp only [Array.length_toList,hc,Nat.add_mul,Nat.one_mul]
  omega
theorem Own.setAt {α:Type} {e:TypeId} {sz:Nat} {c:α->Array Value} {w:World} {base b n cap:Nat} {xs:List α} (h:Own e sz c w base (.slice (Option.some ⟨b,0,none⟩) n cap) xs) (hc:∀ x,(c x).size=sz) {i j:Nat} {x y:α} {u:Value} (hx:xs[i]?=Option.some x) (hj:j < sz) (hy:(c y).toList=(c x).toList.set j u) :
  Own e sz c (w.setCell ⟨b,i*sz+j,none⟩ u) base (.slice (Option.some ⟨b,0,none⟩) n cap) (xs.set i y):=by
 have hn:n=xs.length:=by
  obtain ⟨_,⟨e,_⟩ | ⟨b',cp,cur,e,_⟩⟩:=h
  ·simp at e
  ·simp only [Value.slice.injEq] at e;exact e.2.1
 subst hn
 have:=(World.ownsRow.stored h (i*sz+j) u).1
 unfold Own
 rw [qh0 hc xs i x y j u hx hj hy,List.length_set]
 exact this
theorem Own.blk {α:Type} {e:TypeId} {sz:Nat} {c:α->Array Value} {w:World} {base:Nat} {v:Value} {xs:List α} (h:Own e sz c w base v xs) (hx:0 < xs.length):∃ b cap,v = .slice (Option.some ⟨b,0,none⟩) xs.length cap:=by
 obtain ⟨_,⟨e,hn⟩ | ⟨b',cp,cur,e,_⟩⟩:=h
 ·omega
 ·exact ⟨b',cp,e⟩
theorem Own.cellAt {α:Type} {e:TypeId} {sz:Nat} {c:α->Array Value} {w:World} {base b cap:Nat} {xs:List α} (h:Own e sz c w base (.slice (Option.some ⟨b,0,none⟩) xs.length cap) xs) (hc:∀ x,(c x).size=sz) {i k:Nat} {x:α} (hx:xs[i]?=Option.some x) (hk:k < sz):w.cell? ⟨b,i*sz+k,none⟩=(c x)[k]?:=by
 have hi:=qas hx
 have:i*sz+k < xs.length*sz:=by
  have h1:(i+1)*sz <= xs.length*sz:=Nat.mul_le_mul_right sz hi
  rw [Nat.add_mul,Nat.one_mul] at h1
  omega
 rw [World.ownsRow.cellAt h _ this,qdH hc xs i x hx k hk]
theorem Own.frozenAt {α:Type} {e:TypeId} {sz:Nat} {c:α->Array Value} {w:World} {base b cap:Nat} {xs:List α} (h:Own e sz c w base (.slice (Option.some ⟨b,0,none⟩) xs.length cap) xs) (k:Nat):w.frozen? ⟨b,k,none⟩=false:=World.ownsRow.frozenAt h k
theorem qbl {w:World} {b o:Nat} {u:Value} {k:Nat} (h:k≠b):(w.setCell ⟨b,o,none⟩ u).heap[k]?=w.heap[k]?:=Below.heap_setCell _ _ _ _ h
theorem qcJ {α:Type} {xs:List α} {k i:Nat} {x y:α} (h:(xs.set k y)[i]?=some x):(i=k /\ x=y)∨(i≠k /\ xs[i]?=some x):=by
 by_cases e:k=i
 ·subst e
  have hl:k < xs.length:=by have:=qas h;simpa using this
  rw [List.getElem?_set_self hl] at h
  cases h;exact .inl ⟨rfl,rfl⟩
 ·rw [List.getElem?_set_ne e] at h
  exact .inr ⟨Ne.symm e,h⟩
theorem Mine.setOwner {w:World} {lo hi b cap:Nat} {vs:List Lv} {ls:List Lk} (h:Mine w lo hi (.slice (some ⟨b,0,none⟩) vs.length cap) vs ls) {k:Nat} {x:Lv} {l:Lk} (hx:vs[k]?=some x) (hl:ls[k]?=some l) (c:Int) :
  Mine (w.setCell ⟨b,k*2,none⟩ (.int .i64 c)) lo hi (.slice (some ⟨b,0,none⟩) (vs.set k { x with o:=c }).length cap) (vs.set k { x with o:=c }) (ls.set k { l with owner:=c }):=by
 refine ⟨by simp [h.len],?_,h.out,?_,?_,?_⟩
 ·have:=h.own.setAt qby (i:=k) (j:=0) (x:=x) (y:={ x with o:=c }) (u := .int .i64 c) hx (by omega) rfl
  simpa using this
 ·intro i y m hy hm
  have key:∀ u:Lv,(∀ b',u.row.ownBlock=some b'->b'≠b)->∀ ws,OwnN w lo u.row ws->OwnN (w.setCell ⟨b,k*2,none⟩ (.int .i64 c)) lo u.row ws:=fun u hu ws ho=>ho.same fun b' hb'=>qbl (hu b' hb')
  have hne:∀ (j:Nat) (u:Lv),vs[j]?=some u->∀ b',u.row.ownBlock=some b'->b'≠b:=fun j u hu b' hb' e=>(h.inn j u b' hu hb').2 (by rw [e];rfl)
  rcases qcJ hy with ⟨rfl,rfl⟩ | ⟨hik,hy⟩ <;> rcases qcJ hm with ⟨h1,rfl⟩ | ⟨h1,hm⟩
  ·exact ⟨rfl,key x (hne i x hx) _ (h.rows i x l hx hl).2⟩
  ·exact absurd rfl h1
  ·exact absurd h1 hik
  ·exact ⟨(h.rows i y m hy hm).1,key y (hne i y hy) _ (h.rows i y m hy hm).2⟩
 ·intro i y b' hy hb'
  rcases qcJ hy with ⟨rfl,rfl⟩ | ⟨_,hy⟩
  ·exact h.inn i x b' hx hb'
  ·exact h.inn i y b' hy hb'
 ·intro i j y z b' hy hz e1 e2
  rcases qcJ hy with ⟨rfl,rfl⟩ | ⟨_,hy2⟩ <;> rcases qcJ hz with ⟨rfl,rfl⟩ | ⟨_,hz2⟩
  ·rfl
  ·exact h.apart i j x z b' hx hz2 e1 e2
  ·exact h.apart i j y x b' hy2 hx e1 e2
  ·exact h.apart i j y z b' hy2 hz2 e1 e2
end Go.Proofs.YthpdlbcdbncnhaaGreatDoor
namespace Go.Proofs.YthpdlbcdbncnhaaGreatDoor
set_option maxRecDepth 100000
open Go.RowKit
variable {p p':Bool}
attribute [local go_sem] Keeps.refl Keeps.alloc Keeps.drew Keeps.drewN
def sumW:List Lk->Nat
 | []=>0
 | l::r=>l.waits.length+sumW r
theorem qh1 (xs ys:List Lk):sumW (xs++ys)=sumW xs+sumW ys:=by
 induction xs with
 | nil=>simp [sumW]
 | cons x r ih=>simp only [List.cons_append,sumW,ih];omega
theorem qeC {ls:List Lk} {k:Nat} {l:Lk} (h:ls[k]?=some l):sumW (ls.take (k+1))=sumW (ls.take k)+l.waits.length:=by
 rw [List.take_add_one,h,qh1]
 simp [sumW]
theorem qf4 (ls:List Lk) (k:Nat):sumW (ls.take k) <= sumW ls:=by
 have:=qh1 (ls.take k) (ls.drop k)
 rw [List.take_append_drop] at this
 omega
theorem qdu {ls:List Lk} {k:Nat} {l:Lk} (h:ls[k]?=some l):l.waits.length <= sumW ls:=by
 have:=qeC h
 have:=qf4 ls (k+1)
 omega
def qak (ls:List Lk):Nat:=ls.length+sumW ls
variable {p:Bool}
attribute [local go_sem] Keeps.refl Keeps.alloc Keeps.drew Keeps.drewN
theorem qh2 {xs:List Int} {x:Int} {k:Nat} {y:Int} (hy:xs[k]?=some y) (h:(y==x)=true):hasB xs x=true:=by
 rw [qb9]
 have:=List.mem_of_getElem? hy
 simp at h
 rw [<- h];exact this
theorem qh3 {xs:List Int} {x:Int} (h:∀ (j:Nat) (y:Int),xs[j]?=some y->(y==x)=false):hasB xs x=false:=by
 rw [qeF]
 intro hm
 obtain ⟨j,hj,e⟩:=List.mem_iff_getElem.1 hm
 have:=h j _ (List.getElem?_eq_getElem hj)
 simp [e] at this
set_option maxHeartbeats 1000000 in
theorem qdN (a:Option Addr) (cap:Nat) (xs:List Int) (x:Int) (w:World) (hl:xs.length <= maxLen) (hs:Ns w a xs) :
  Calls Tryz.prog 69 #[.slice a xs.length cap,.int .i64 x] w fun e w'=>e = .returned (.bool (hasB xs x)) /\ Keeps w w':=by
 unfold maxLen at hl
 generalize hn:xs.length=n at hl
 have Hn:Hid (xs.length=n):=hn
 clear hn
 go_enter Tryz.func69,Tryz.ntmps69
 go_wp2
 go_loopw [5] (fun i wr=>∃ k:Nat,k <= n /\ i = .int .i64 k /\ Keeps w wr /\ Hid (∀ (j:Nat) (y:Int),j < k->xs[j]?=some y->(y==x)=false)) (fun i _=>n - (intOf i).toNat)
 case atStart=>exact ⟨0,Nat.zero_le _,rfl,Keeps.refl _,fun j y hj=>by omega⟩
 case round =>
  obtain ⟨k,hk,rfl,hK,H⟩:=hrel
  by_cases hlt:k < n
  ·obtain ⟨y,hy⟩:=qai (xs:=xs) (k:=k) (by rw [Hn.out];exact hlt)
   obtain ⟨b,off,rfl,r0⟩:=hs.at hy
   have hlt':(k:Int) < (n:Int):=by omega
   have Hy:Hid (xs[k]?=some y):=hy
   clear hs hy
   cases hq:(y==x)
   ·go_wp2
    exact ⟨⟨k+1,by omega,by go_num,hK,fun j s hj hs=>by
     by_cases e:j=k
     ·subst e;rw [Hy.out] at hs;cases hs;exact hq
     ·exact H.out j s (by omega) hs⟩,by simp only [intOf];omega⟩
   ·have Hr:Hid (hasB xs x=true):=qh2 Hy.out hq
    go_wp2
    go_ret
    exact ⟨by rw [Hr.out];rfl,hK⟩
  ·have Hr:Hid (hasB xs x=false):=qh3 fun j y hy=>H.out j y (by have:=qas hy;rw [Hn.out] at this;omega) hy
   go_wp2
   go_ret
   exact ⟨by rw [Hr.out];rfl,hK⟩
set_option maxHeartbeats 1000000 in
theorem qe5 (a:Option Addr) (cap:Nat) (ls:List Lk) (no:Int) (w:World) (hl:ls.length <= maxLen) (hs:Lks p w a ls) :
  Calls Tryz.prog 194 #[.slice a ls.length cap,.int .i64 no] w fun e w'=>e = .returned (.int .i64 (qaK ls no)) /\ Keeps w w':=by
 unfold maxLen at hl
 generalize hn:ls.length=n at hl
 have Hn:Hid (ls.length=n):=hn
 clear hn
 go_enter Tryz.func194,Tryz.ntmps194
 go_wp2
 go_loopw [5] (fun i wr=>∃ k:Nat,k <= n /\ i = .int .i64 k /\ Keeps w wr /\ Hid (∀ (j:Nat) (m:Lk),j < k->ls[j]?=some m->hasB m.waits no=false)) (fun i _=>n - (intOf i).toNat)
 case atStart=>exact ⟨0,Nat.zero_le _,rfl,Keeps.refl _,fun j y hj=>by omega⟩
 case round =>
  obtain ⟨k,hk,rfl,hK,H⟩:=hrel
  by_cases hlt:k < n
  ·obtain ⟨l,hl1⟩:=qai (xs:=ls) (k:=k) (by rw [Hn.out];exact hlt)
   obtain ⟨b,off,a',cap',rfl,r0,r1,hle,hns⟩:=hs.at hl1
   have hlt':(k:Int) < (n:Int):=by omega
   have Hl:Hid (ls[k]?=some l):=hl1
   have Hle:Hid (l.waits.length <= maxLen):=hle
   have N1:Hid (Ns w a' l.waits):=hns
   clear hs hl1 hle hns
   cases hq:hasB l.waits no
   ·go_wp2_with (go_at_call 69;refine (qdN _ _ l.waits no _ Hle.out (N1.out.keeps hK)).mono ?_;rintro e w1 ⟨rfl,k1⟩;rw [hq])
    exact ⟨⟨k+1,by omega,by go_num,hK.trans k1,fun j s hj hs=>by
     by_cases e:j=k
     ·subst e;rw [Hl.out] at hs;cases hs;exact hq
     ·exact H.out j s (by omega) hs⟩,by simp only [intOf];omega⟩
   ·have Hr:Hid (qaK ls no=k):=by
     show _=_
     unfold qaK
     rw [qgc Hl.out hq H.out]
    go_wp2_with (go_at_call 69;refine (qdN _ _ l.waits no _ Hle.out (N1.out.keeps hK)).mono ?_;rintro e w1 ⟨rfl,k1⟩;rw [hq])
    go_ret
    exact ⟨by rw [Hr.out];rfl,hK.trans k1⟩
  ·have Hr:Hid (qaK ls no = -1):=by
    show _=_
    unfold qaK
    rw [qgd fun j m hm=>H.out j m (by have:=qas hm;rw [Hn.out] at this;omega) hm]
   go_wp2
   go_ret
   exact ⟨by rw [Hr.out];rfl,hK⟩
theorem qf5 (xs ys:List Int) (no:Int):qaQ (xs++ys) no=qaQ xs no+qaQ ys no:=by simp [qaQ]
theorem qh4 (xs:List Int) (no:Int):qaQ xs no <= xs.length:=List.length_filter_le _ _
theorem qh5 {xs:List Int} {k:Nat} {x no:Int} (h:xs[k]?=some x):qaQ (xs.take (k+1)) no=qaQ (xs.take k) no+(if x==no then 1 else 0):=by
 rw [List.take_add_one,h,qf5]
 congr 1
 cases hx:(x==no) <;> simp [qaQ,hx]
theorem qmV (xs ys:List Lk) (no:Int):qaF (xs++ys) no=qaF xs no+qaF ys no:=by
 induction xs with
 | nil=>simp [qaF]
 | cons x r ih=>simp only [List.cons_append,qaF,ih];omega
theorem qmW {ls:List Lk} {k:Nat} {l:Lk} (h:ls[k]?=some l) (no:Int):qaF (ls.take (k+1)) no=qaF (ls.take k) no+qaQ l.waits no:=by
 rw [List.take_add_one,h,qmV]
 simp [qaF]
theorem qmX (ls:List Lk) (no:Int):qaF ls no <= sumW ls:=by
 induction ls with
 | nil=>simp [qaF]
 | cons l r ih=>have:=qh4 l.waits no;simp only [qaF,sumW];omega
set_option maxHeartbeats 2000000 in
theorem qh6 (a:Option Addr) (cap:Nat) (ls:List Lk) (no:Int) (w:World) (hl:qak ls <= 2097152) (hs:Lks p w a ls) :
  Calls Tryz.prog 160 #[.slice a ls.length cap,.int .i64 no] w fun e w'=>e = .returned (.int .i64 (qaF ls no)) /\ Keeps w w':=by
 have HL:Hid (qak ls <= 2097152):=hl
 have hl0:ls.length <= 2097152:=by unfold qak at hl;omega
 clear hl
 generalize hn:ls.length=n at hl0
 have Hn:Hid (ls.length=n):=hn
 clear hn
 go_enter Tryz.func160,Tryz.ntmps160
 go_wp2
 go_loopw [5,6] (fun c i wr=>∃ (k q:Nat),k <= n /\ i = .int .i64 k /\ c = .int .i64 q /\ Hid (qaF (ls.take k) no=q) /\ q <= 2097152 /\ Keeps w wr) (fun _ i _=>n - (intOf i).toNat)
 case atStart=>exact ⟨0,0,Nat.zero_le _,rfl,rfl,by show _=_;simp [qaF],by omega,Keeps.refl _⟩
 case round =>
  obtain ⟨k,q,hk,rfl,rfl,Hq,hq1,hK⟩:=hrel
  by_cases hlt:k < n
  ·obtain ⟨l,hl1⟩:=qai (xs:=ls) (k:=k) (by rw [Hn.out];exact hlt)
   obtain ⟨b,off,a',cap',rfl,r0,r1,hle,hns⟩:=hs.at hl1
   have hlt':(k:Int) < (n:Int):=by omega
   have Hl:Hid (ls[k]?=some l):=hl1
   have Hle:Hid (l.waits.length <= maxLen):=hle
   have hw1:Hid (l.waits.length <= 2097152):=by show _ <= _;have:=qdu hl1;have:=HL.out;unfold qak at this;omega
   have hw2:Hid (q+l.waits.length <= 2097152):=by
    show _ <= _
    have h1:=qeC hl1
    have h2:=qf4 ls (k+1)
    have h3:=qmX (ls.take k) no
    have h4:=HL.out
    rw [Hq.out] at h3
    unfold qak at h4
    omega
   clear hl1 hle
   obtain ⟨m,Hm⟩:∃ m:Nat,Hid (l.waits.length=m):=⟨_,rfl⟩
   have hm1:m <= 2097152:=by rw [<- Hm.out];exact hw1.out
   have hm2:q+m <= 2097152:=by rw [<- Hm.out];exact hw2.out
   rw [Hm.out] at r1
   go_wp2
   go_loopw [5,7] (fun c i wr=>∃ (j p:Nat),j <= m /\ i = .int .i64 j /\ c = .int .i64 p /\ Hid (q+qaQ (l.waits.take j) no=p) /\ p <= 2097152 /\ Keeps w wr) (fun _ i _=>m - (intOf i).toNat)
   case atStart=>exact ⟨0,q,Nat.zero_le _,rfl,rfl,by show _=_;simp [qaQ],hq1,hK⟩
   case round =>
    obtain ⟨j,p,hj,rfl,rfl,Hp,hp1,hK⟩:=hrel
    by_cases hlt2:j < m
    ·obtain ⟨x,hx⟩:=qai (xs:=l.waits) (k:=j) (by rw [Hm.out];exact hlt2)
     obtain ⟨b2,off2,rfl,x0⟩:=hns.at hx
     have hlt3:(j:Int) < (m:Int):=by omega
     have Hx:Hid (l.waits[j]?=some x):=hx
     have hp2:p < 2097152:=by
      have h1:=qh4 (l.waits.take j) no
      have h2:(l.waits.take j).length <= j:=by simp;omega
      have h3:=Hp.out
      omega
     clear hns hx
     cases hq:(x==no)
     ·go_wp2
      refine ⟨⟨j+1,p,by omega,by go_num,rfl,?_,hp1,hK⟩,by simp only [intOf];omega⟩
      show _=_
      rw [qh5 Hx.out,hq,<- Hp.out]
      simp
     ·go_wp2
      refine ⟨⟨j+1,p+1,by omega,by go_num,by go_num,?_,by omega,hK⟩,by simp only [intOf];omega⟩
      show _=_
      rw [qh5 Hx.out,hq,<- Hp.out]
      simp
      omega
    ·have e:j=m:=by omega
     subst e
     go_wp2
     refine ⟨⟨k+1,p,by omega,by go_num,rfl,?_,hp1,hK⟩,by simp only [intOf];omega⟩
     show _=_
     rw [qmW Hl.out,Hq.out,<- Hp.out,<- Hm.out,List.take_length]
  ·have e:k=n:=by omega
   subst e
   have Hr:Hid (qaF ls no=q):=by show _=_;rw [<- Hq.out,<- Hn.out,List.take_length]
   go_wp2
   go_ret
   exact ⟨by rw [Hr.out];rfl,hK⟩
theorem qmY {ls:List Lk} {no:Int} {k:Nat} {l:Lk} (hl:ls[k]?=some l) (h0:(no != 0)=true) (h1:(l.owner==no)=true):qcB ls no=true:=by
 unfold qcB
 rw [List.any_eq_true]
 exact ⟨l,List.mem_of_getElem? hl,by rw [h0,h1];rfl⟩
theorem qmZ {ls:List Lk} {no:Int} (h:∀ (j:Nat) (l:Lk),ls[j]?=some l->(no != 0&&l.owner==no)=false):qcB ls no=false:=by
 unfold qcB
 rw [List.any_eq_false]
 intro l hl
 obtain ⟨j,hj,rfl⟩:=List.mem_iff_getElem.1 hl
 simpa using h j _ (List.getElem?_eq_getElem hj)
set_option maxHeartbeats 1000000 in
theorem qm0 (a:Option Addr) (cap:Nat) (ls:List Lk) (no:Int) (w:World) (hl:ls.length <= maxLen) (hs:Lks p w a ls) :
  Calls Tryz.prog 239 #[.slice a ls.length cap,.int .i64 no] w fun e w'=>e = .returned (.bool (qcB ls no)) /\ Keeps w w':=by
 unfold maxLen at hl
 generalize hn:ls.length=n at hl
 have Hn:Hid (ls.length=n):=hn
 clear hn
 go_enter Tryz.func239,Tryz.ntmps239
 go_wp2
 go_loopw [5] (fun i wr=>∃ k:Nat,k <= n /\ i = .int .i64 k /\ Keeps w wr /\ Hid (∀ (j:Nat) (l:Lk),j < k->ls[j]?=some l->(no != 0&&l.owner==no)=false)) (fun i _=>n - (intOf i).toNat)
 case atStart=>exact ⟨0,Nat.zero_le _,rfl,Keeps.refl _,fun j y hj=>by omega⟩
 case round =>
  obtain ⟨k,hk,rfl,hK,H⟩:=hrel
  by_cases hlt:k < n
  ·obtain ⟨l,hl1⟩:=qai (xs:=ls) (k:=k) (by rw [Hn.out];exact hlt)
   obtain ⟨b,off,a',cap',rfl,r0,r1,-,-⟩:=hs.at hl1
   have hlt':(k:Int) < (n:Int):=by omega
   have Hl:Hid (ls[k]?=some l):=hl1
   clear hs hl1
   cases h0:(no != 0)
   ·go_wp2
    exact ⟨⟨k+1,by omega,by go_num,hK,fun j s hj hs=>rfl⟩,by simp only [intOf];omega⟩
   ·cases hq:(l.owner==no)
    ·go_wp2
     exact ⟨⟨k+1,by omega,by go_num,hK,fun j s hj hs=>by
      by_cases e:j=k
      ·subst e;rw [Hl.out] at hs;cases hs;rw [hq];simp
      ·have:=H.out j s (by omega) hs;rw [h0] at this;exact this⟩,by simp only [intOf];omega⟩
    ·have Hr:Hid (qcB ls no=true):=qmY Hl.out h0 hq
     go_wp2
     go_ret
     exact ⟨by rw [Hr.out];rfl,hK⟩
  ·have Hr:Hid (qcB ls no=false):=qmZ fun j y hy=>H.out j y (by have:=qas hy;rw [Hn.out] at this;omega) hy
   go_wp2
   go_ret
   exact ⟨by rw [Hr.out];rfl,hK⟩
end Go.Proofs.YthpdlbcdbncnhaaGreatDoor
