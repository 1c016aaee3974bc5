/-
  Locks, as plain functions, and what holds of them. Locks: w
-/
import Derived.Test.YthpdlbcdbncnhaaGreatDoorGBase1
import Derived.Test.YthpdlbcdbncnhaaGreatDoorGTask2
namespace Go.Proofs.YthpdlbcdbncnhaaGreatDoor
open Go.RowKit
structure Lk where
 owner:Int
 waits:List Int
def hasB (xs:List Int) (x:Int):Bool:=xs.any fun y=>y==x
theorem qb9 {xs:List Int} {x:Int}:hasB xs x=true↔x∈xs:=by simp [hasB]
theorem qeF {xs:List Int} {x:Int}:hasB xs x=false↔x ∉ xs:=by rw [<- qb9];simp
def qax (ls:List Lk) (no:Int):Option Nat:=ls.findIdx? fun l=>hasB l.waits no
def qaK (ls:List Lk) (no:Int):Int:=match qax ls no with
 | some i=>i
 | none => -1
def qaB (ls:List Lk) (i:Nat):Int:=match ls[i]? with
 | some l=>l.owner
 | none=>0
def qam (ls:List Lk):Nat->Int->List Int × Bool
 | 0,no=>([no],false)
 | f+1,no=>match qax ls no with
  | none=>([no],true)
  | some i=>(no::(qam ls f (qaB ls i)).1,(qam ls f (qaB ls i)).2)
def qaQ (xs:List Int) (no:Int):Nat:=(xs.filter fun y=>y==no).length
def qaF:List Lk->Int->Nat
 | [],_=>0
 | l::r,no=>qaQ l.waits no+qaF r no
def qbR (ls:List Lk) (no:Int):Bool:=(qam ls (ls.length+1) no).2&&(inB no 1 1000&&qaF ls no==1)
def qbO (ls:List Lk) (l:Lk):Bool:=inB l.owner 0 1000&&(!(l.owner==0&&decide (0 < l.waits.length))&&l.waits.all (qbR ls))
def qav (ls:List Lk):Bool:=decide (ls.length <= 5)&&ls.all (qbO ls)
def qaR (ls:List Lk) (no:Int):List Int:=if qav ls then (qam ls (ls.length+1) no).1 else []
def qcB (ls:List Lk) (no:Int):Bool:=ls.any fun l=>no != 0&&l.owner==no
def qcC (no:Int) (l:Lk):Lk:={ l with owner:=no }
def qe9 (no:Int) (l:Lk):Lk:={ l with waits:=l.waits++[no] }
def qbm (xs:List Int) (x:Int):List Int:=xs.filter fun y=>y != x
def qd9 (next:Int) (l:Lk):Lk:=⟨next,qbm l.waits next⟩
def askN (ls:List Lk) (i no:Int):Int :=
 if !qav ls then 2 else if !inB i 0 ((ls.length:Int) - 1)||(!inB no 1 1000||decide (0 <= qaK ls no)) then 2
 else if qaB ls i.toNat==no then 3 else if qaB ls i.toNat==0 then 0 else if hasB (qaR ls (qaB ls i.toNat)) no then 4 else 1
def askL (ls:List Lk) (i no:Int):List Lk :=
 if !qav ls then [] else if askN ls i no==0 then ls.modify i.toNat (qcC no) else if askN ls i no==1 then ls.modify i.toNat (qe9 no) else ls
def qc9 (ls:List Lk) (i:Nat):List Int:=match ls[i]? with
 | some l=>l.waits
 | none=>[]
def qeG (xs:List Int) (next:Int):Bool:=if xs.length==0 then next==0 else hasB xs next
def qbE (ls:List Lk) (i no next:Int):Bool :=
 qav ls&&(inB i 0 ((ls.length:Int) - 1)&&(!(no==0)&&(qaB ls i.toNat==no&&qeG (qc9 ls i.toNat) next)))
def qa5 (ls:List Lk) (i no next:Int):List Lk :=
 if !qav ls then [] else if qbE ls i no next then ls.modify i.toNat (qd9 next) else ls
section chains
variable {ls:List Lk}
theorem qda {no:Int} {i:Nat} (h:qax ls no=some i):∃ l,ls[i]?=some l /\ hasB l.waits no=true /\ ∀ j m,j < i->ls[j]?=some m->hasB m.waits no=false:=by
 obtain ⟨hi,h1,h2⟩:=List.findIdx?_eq_some_iff_getElem.1 h
 refine ⟨ls[i],List.getElem?_eq_getElem hi,h1,fun j m hj hm => ?_⟩
 have hj':j < ls.length:=by omega
 rw [List.getElem?_eq_getElem hj'] at hm
 cases hm
 simpa using h2 j hj
theorem qfa {no:Int} (h:qax ls no=none):∀ (j:Nat) (m:Lk),ls[j]?=some m->hasB m.waits no=false:=by
 intro j m hm
 have:=List.findIdx?_eq_none_iff.1 h m (List.mem_of_getElem? hm)
 simpa using this
theorem qgc {no:Int} {i:Nat} {l:Lk} (h0:ls[i]?=some l) (h1:hasB l.waits no=true) (h2:∀ j m,j < i->ls[j]?=some m->hasB m.waits no=false):qax ls no=some i:=by
 have hi:i < ls.length:=by
  rcases Nat.lt_or_ge i ls.length with h | h
  ·exact h
  ·rw [List.getElem?_eq_none h] at h0;cases h0
 refine List.findIdx?_eq_some_iff_getElem.2 ⟨hi,?_,fun j hj => ?_⟩
 ·rw [List.getElem?_eq_getElem hi] at h0;cases h0;exact h1
 ·simpa using h2 j ls[j] hj (List.getElem?_eq_getElem _)
theorem qgd {no:Int} (h:∀ (j:Nat) (m:Lk),ls[j]?=some m->hasB m.waits no=false):qax ls no=none:=by
 refine List.findIdx?_eq_none_iff.2 fun m hm => ?_
 obtain ⟨j,hj,rfl⟩:=List.mem_iff_getElem.1 hm
 simpa using h j _ (List.getElem?_eq_getElem hj)
theorem qbS {i:Nat} {l:Lk} (h:ls[i]?=some l):qaB ls i=l.owner:=by simp [qaB,h]
theorem qea {f:Nat} {no:Int} (h:qax ls no=none):qam ls (f+1) no=([no],true):=by simp [qam,h]
theorem qeb {f:Nat} {no:Int} {i:Nat} (h:qax ls no=some i):qam ls (f+1) no=(no::(qam ls f (qaB ls i)).1,(qam ls f (qaB ls i)).2):=by simp [qam,h]
def Ends (ls:List Lk) (no:Int) (c:List Int):Prop:=∃ f,qam ls f no=(c,true)
theorem Ends.cases {no:Int} {c:List Int} (h:Ends ls no c):(qax ls no=none /\ c=[no])∨∃ i r,qax ls no=some i /\ c=no::r /\ Ends ls (qaB ls i) r:=by
 obtain ⟨f,h⟩:=h
 cases f with
 | zero=>simp [qam] at h
 | succ f =>
  cases hw:qax ls no with
  | none=>rw [qea hw] at h;cases h;exact .inl ⟨rfl,rfl⟩
  | some i =>
   rw [qeb hw] at h
   simp only [Prod.mk.injEq] at h
   exact .inr ⟨i,_,rfl,h.1.symm,f,Prod.ext rfl h.2⟩
theorem Ends.stop {no:Int} (h:qax ls no=none):Ends ls no [no]:=⟨1,qea h⟩
theorem Ends.step {no:Int} {i:Nat} {r:List Int} (h:qax ls no=some i) (hr:Ends ls (qaB ls i) r):Ends ls no (no::r):=by
 obtain ⟨f,hf⟩:=hr
 exact ⟨f+1,by rw [qeb h,hf]⟩
theorem Ends.one:∀ {c d:List Int} {no:Int},Ends ls no c->Ends ls no d->c=d
 | [],_,_,h,_=>by rcases h.cases with ⟨_,e⟩ | ⟨_,_,_,e,_⟩ <;> cases e
 | x::r,d,no,h,h'=>by
  rcases h.cases with ⟨hw,e⟩ | ⟨i,r',hw,e,hr⟩
  ·rcases h'.cases with ⟨_,e'⟩ | ⟨i',_,hw',_,_⟩
   ·rw [e,e']
   ·rw [hw] at hw';cases hw'
  ·cases e
   rcases h'.cases with ⟨hw',_⟩ | ⟨i',r'',hw',e',hr'⟩
   ·rw [hw] at hw';cases hw'
   ·rw [hw] at hw';cases hw'
    rw [e',Ends.one hr hr']
theorem Ends.fuel:∀ {c:List Int} {no:Int},Ends ls no c->∀ g,c.length <= g->qam ls g no=(c,true)
 | [],_,h,_,_=>by rcases h.cases with ⟨_,e⟩ | ⟨_,_,_,e,_⟩ <;> cases e
 | x::r,no,h,0,hg=>by simp at hg
 | x::r,no,h,g+1,hg=>by
  rcases h.cases with ⟨hw,e⟩ | ⟨i,r',hw,e,hr⟩
  ·rw [qea hw,e]
  ·cases e
   rw [qeb hw,Ends.fuel hr g (by simpa using hg)]
theorem Ends.head {no:Int} {c:List Int} (h:Ends ls no c):c[0]?=some no:=by
 rcases h.cases with ⟨_,rfl⟩ | ⟨_,_,_,rfl,_⟩ <;> rfl
theorem Ends.drop:∀ {p:Nat} {c:List Int} {no y:Int},Ends ls no c->c[p]?=some y->Ends ls y (c.drop p)
 | 0,c,no,y,h,hy=>by
  rw [h.head] at hy
  cases hy
  simpa using h
 | p+1,c,no,y,h,hy=>by
  rcases h.cases with ⟨_,rfl⟩ | ⟨i,r,_,rfl,hr⟩
  ·simp at hy
  ·have:=Ends.drop (p:=p) hr (by simpa using hy)
   simpa using this
theorem Ends.nodup {c:List Int} {no:Int} (h:Ends ls no c) {p q:Nat} {y:Int} (hp:c[p]?=some y) (hq:c[q]?=some y):p=q:=by
 have e:=Ends.one (h.drop hp) (h.drop hq)
 have lp:p < c.length:=by
  rcases Nat.lt_or_ge p c.length with h | h
  ·exact h
  ·rw [List.getElem?_eq_none h] at hp;cases hp
 have lq:q < c.length:=by
  rcases Nat.lt_or_ge q c.length with h | h
  ·exact h
  ·rw [List.getElem?_eq_none h] at hq;cases hq
 have:=congrArg List.length e
 simp only [List.length_drop] at this
 omega
theorem Ends.next {c:List Int} {no:Int} (h:Ends ls no c) {p:Nat} {y z:Int} (hp:c[p]?=some y) (hz:c[p+1]?=some z):∃ i,qax ls y=some i /\ qaB ls i=z:=by
 rcases (h.drop hp).cases with ⟨_,e⟩ | ⟨i,r,hw,e,hr⟩
 ·have:(c.drop p)[1]?=some z:=by rw [List.getElem?_drop,<- hz]
  rw [e] at this;simp at this
 ·have:(c.drop p)[1]?=some z:=by rw [List.getElem?_drop,<- hz]
  rw [e] at this
  have h0:=hr.head
  simp only [List.getElem?_cons_succ] at this
  rw [h0] at this
  exact ⟨i,hw,by simpa using this⟩
theorem qeH:∀ (n m:Nat) (f:Nat->Nat),(∀ i,i < m->f i < n)->(∀ i j,i < m->j < m->f i=f j->i=j)->m <= n
 | 0,m,f,h,_=>by
  rcases Nat.eq_zero_or_pos m with e | e
  ·omega
  ·exact absurd (h 0 e) (Nat.not_lt_zero _)
 | n+1,m,f,h,hi=>by
  by_cases hx:∃ k,k < m /\ f k=n
  ·obtain ⟨k,hk,e⟩:=hx
   have:=qeH n (m - 1) (fun i=>f (if i < k then i else i+1)) (fun i hm=>by
    split
    ·have h1:=h i (by omega)
     have h2:f i≠n:=fun h3=>by have:=hi i k (by omega) hk (h3.trans e.symm);omega
     omega
    ·have h1:=h (i+1) (by omega)
     have h2:f (i+1)≠n:=fun h3=>by have:=hi (i+1) k (by omega) hk (h3.trans e.symm);omega
     omega) (fun i j hm hj he=>by
    split at he <;> split at he <;> (have:=hi _ _ (by omega) (by omega) he;omega))
   omega
  ·have:=qeH n m f (fun i hm=>by
    have h1:=h i hm
    have h2:f i≠n:=fun h3=>hx ⟨i,hm,h3⟩
    omega) hi
   omega
theorem Ends.bound {c:List Int} {no:Int} (h:Ends ls no c):c.length <= ls.length+1:=by
 have key:∀ p,p < c.length - 1->∃ i,qax ls (c.getD p 0)=some i /\ i < ls.length /\ qaB ls i=c.getD (p+1) 0:=by
  intro p hp
  have h1:c[p]?=some (c.getD p 0):=by rw [List.getD_eq_getElem?_getD,List.getElem?_eq_getElem (by omega)];rfl
  have h2:c[p+1]?=some (c.getD (p+1) 0):=by rw [List.getD_eq_getElem?_getD,List.getElem?_eq_getElem (by omega)];rfl
  obtain ⟨i,hi,ho⟩:=h.next h1 h2
  obtain ⟨l,hl,_⟩:=qda hi
  refine ⟨i,hi,?_,ho⟩
  rcases Nat.lt_or_ge i ls.length with h | h
  ·exact h
  ·rw [List.getElem?_eq_none h] at hl;cases hl
 have:=qeH ls.length (c.length - 1) (fun p=>(qax ls (c.getD p 0)).getD 0) (fun p hp=>by
  obtain ⟨i,hi,hlt,_⟩:=key p hp
  simp only [hi,Option.getD_some];exact hlt) (fun p q hp hq e=>by
  obtain ⟨i,hi,_,ho⟩:=key p hp
  obtain ⟨j,hj,_,ho'⟩:=key q hq
  simp only [hi,hj,Option.getD_some] at e
  subst e
  have h1:c[p+1]?=some (c.getD (p+1) 0):=by rw [List.getD_eq_getElem?_getD,List.getElem?_eq_getElem (by omega)];rfl
  have h2:c[q+1]?=some (c.getD (q+1) 0):=by rw [List.getD_eq_getElem?_getD,List.getElem?_eq_getElem (by omega)];rfl
  rw [<- ho,ho'] at h1
  have:=h.nodup h1 h2
  omega)
 omega
theorem qfb {no:Int}:(qam ls (ls.length+1) no).2=true↔∃ c,Ends ls no c:=by
 constructor
 ·intro h;exact ⟨(qam ls (ls.length+1) no).1,_,Prod.ext rfl h⟩
 ·rintro ⟨c,h⟩;rw [h.fuel _ h.bound]
theorem Ends.is {no:Int} {c:List Int} (h:Ends ls no c):qam ls (ls.length+1) no=(c,true):=h.fuel _ h.bound
end chains
theorem qdO {α:Type} {xs:List α} {k:Nat} {x:α} (h:xs[k]?=some x):k < xs.length:=by
 rcases Nat.lt_or_ge k xs.length with h' | h'
 ·exact h'
 ·rw [List.getElem?_eq_none h'] at h;cases h
theorem qbn {ls:List Lk} {k i:Nat} {m y:Lk} (h:(ls.set k y)[i]?=some m):(i=k /\ m=y)∨(i≠k /\ ls[i]?=some m):=by
 by_cases e:k=i
 ·subst e
  have hl:k < ls.length:=by have:=qdO h;simpa using this
  rw [List.getElem?_set_self hl] at h
  cases h;exact .inl ⟨rfl,rfl⟩
 ·rw [List.getElem?_set_ne e] at h
  exact .inr ⟨Ne.symm e,h⟩
theorem qii {ls:List Lk} {i:Nat} {l:Lk} (h:ls[i]?=some l) (f:Lk->Lk):ls.modify i f=ls.set i (f l):=by
 apply List.ext_getElem?
 intro j
 by_cases e:i=j
 ·subst e
  rw [List.getElem?_modify,List.getElem?_set_self (qdO h),h]
  simp
 ·rw [List.getElem?_modify,List.getElem?_set_ne e]
  simp [e]
theorem qij {xs:List Int} {x:Int}:0 < qaQ xs x↔hasB xs x=true:=by
 unfold qaQ hasB
 rw [List.length_pos_iff_exists_mem,List.any_eq_true]
 constructor
 ·rintro ⟨y,hy⟩;rw [List.mem_filter] at hy;exact ⟨y,hy.1,hy.2⟩
 ·rintro ⟨y,h1,h2⟩;exact ⟨y,List.mem_filter.2 ⟨h1,h2⟩⟩
theorem qik {xs:List Int} {x:Int}:qaQ xs x=0↔hasB xs x=false:=by
 have:=qij (xs:=xs) (x:=x)
 cases h:hasB xs x
 ·rw [h] at this;simp at this;simp;exact this
 ·rw [h] at this;simp at this;simp;omega
theorem qfc:∀ {ls:List Lk} {j:Nat} {l:Lk} (m:Lk) (x:Int),ls[j]?=some l->qaF (ls.set j m) x+qaQ l.waits x=qaF ls x+qaQ m.waits x
 | [],j,l,m,x,h=>by simp at h
 | y::r,0,l,m,x,h=>by
  simp at h
  subst h
  simp only [List.set_cons_zero,qaF]
  omega
 | y::r,j+1,l,m,x,h=>by
  have:=qfc (ls:=r) (j:=j) m x (by simpa using h)
  simp only [List.set_cons_succ,qaF]
  omega
theorem qnp {ls:List Lk} {x:Int} (h:∀ (j:Nat) (l:Lk),ls[j]?=some l->hasB l.waits x=false):qaF ls x=0:=by
 induction ls with
 | nil=>rfl
 | cons y r ih =>
  have h0:=qik.2 (h 0 y rfl)
  have h1:=ih fun j l hl=>h (j+1) l (by simpa using hl)
  simp only [qaF];omega
structure Right (ls:List Lk):Prop where
 len:ls.length <= 5
 owner:∀ (j:Nat) (l:Lk),ls[j]?=some l->0 <= l.owner /\ l.owner <= 1000
 free:∀ (j:Nat) (l:Lk),ls[j]?=some l->l.owner=0->l.waits=[]
 no:∀ (j:Nat) (l:Lk) (x:Int),ls[j]?=some l->hasB l.waits x=true->1 <= x /\ x <= 1000
 once:∀ (j:Nat) (l:Lk) (x:Int),ls[j]?=some l->hasB l.waits x=true->qaF ls x=1
 ends:∀ (j:Nat) (l:Lk) (x:Int),ls[j]?=some l->hasB l.waits x=true->∃ c,Ends ls x c
theorem qec {ls:List Lk}:qav ls=true↔Right ls:=by
 unfold qav
 simp only [Bool.and_eq_true,decide_eq_true_eq,List.all_eq_true]
 have wb:∀ x,qbR ls x=true↔(∃ c,Ends ls x c) /\ (1 <= x /\ x <= 1000) /\ qaF ls x=1:=by
  intro x
  unfold qbR
  rw [Bool.and_eq_true,Bool.and_eq_true,qfb,qap,beq_iff_eq]
 have lb:∀ l,qbO ls l=true↔(0 <= l.owner /\ l.owner <= 1000) /\ (l.owner=0->l.waits=[]) /\ ∀ x,hasB l.waits x=true->qbR ls x=true:=by
  intro l
  unfold qbO
  rw [Bool.and_eq_true,Bool.and_eq_true,qap,List.all_eq_true]
  refine and_congr Iff.rfl (and_congr ?_ ?_)
  ·rw [Bool.not_eq_true',Bool.and_eq_false_iff]
   constructor
   ·rintro (h | h) e
    ·simp [e] at h
    ·simp at h;exact h
   ·intro h
    by_cases e:l.owner=0
    ·right;rw [h e];rfl
    ·left;simpa using e
  ·constructor
   ·intro h x hx;exact h x (qb9.1 hx)
   ·intro h x hx;exact h x (qb9.2 hx)
 constructor
 ·rintro ⟨h1,h2⟩
  have key:∀ (j:Nat) (l:Lk),ls[j]?=some l->qbO ls l=true:=fun j l hl=>h2 l (List.mem_of_getElem? hl)
  exact ⟨h1,fun j l hl=>((lb l).1 (key j l hl)).1,fun j l hl=>((lb l).1 (key j l hl)).2.1,fun j l x hl hx=>((wb x).1 (((lb l).1 (key j l hl)).2.2 x hx)).2.1,fun j l x hl hx=>((wb x).1 (((lb l).1 (key j l hl)).2.2 x hx)).2.2,fun j l x hl hx=>((wb x).1 (((lb l).1 (key j l hl)).2.2 x hx)).1⟩
 ·intro R
  refine ⟨R.len,fun l hl => ?_⟩
  obtain ⟨j,hj,rfl⟩:=List.mem_iff_getElem.1 hl
  have e:=List.getElem?_eq_getElem hj
  exact (lb _).2 ⟨R.owner j _ e,R.free j _ e,fun x hx=>(wb x).2 ⟨R.ends j _ x e hx,R.no j _ x e hx,R.once j _ x e hx⟩⟩
theorem Right.chain {ls:List Lk} (R:Right ls) (x:Int):∃ c,Ends ls x c:=by
 cases h:qax ls x with
 | none=>exact ⟨_,Ends.stop h⟩
 | some i =>
  obtain ⟨l,hl,hx,_⟩:=qda h
  exact R.ends i l x hl hx
theorem qnq {ls:List Lk} (R:Right ls) {x:Int} {c:List Int} (h:Ends ls x c):qaR ls x=c:=by
 unfold qaR
 rw [qec.2 R,h.is];rfl
theorem qil {ls ls':List Lk} {x:Int} (hl:ls'.length=ls.length) (h:∀ (j:Nat) (m m':Lk),ls[j]?=some m->ls'[j]?=some m'->hasB m'.waits x=hasB m.waits x):qax ls' x=qax ls x:=by
 have get:∀ (j:Nat) (m':Lk),ls'[j]?=some m'->∃ m,ls[j]?=some m:=fun j m' hm=>⟨ls[j]'(by have:=qdO hm;omega),List.getElem?_eq_getElem _⟩
 cases hw:qax ls x with
 | none =>
  refine qgd fun j m' hm => ?_
  obtain ⟨m,hm0⟩:=get j m' hm
  rw [h j m m' hm0 hm];exact qfa hw j m hm0
 | some i =>
  obtain ⟨l,hl1,hx,hmin⟩:=qda hw
  have hi:i < ls'.length:=by have:=qdO hl1;omega
  refine qgc (List.getElem?_eq_getElem hi) ?_ fun j m' hj hm => ?_
  ·rw [h i l _ hl1 (List.getElem?_eq_getElem hi)];exact hx
  ·obtain ⟨m,hm0⟩:=get j m' hm
   rw [h j m m' hm0 hm];exact hmin j m hj hm0
theorem qim {ls ls':List Lk} (hw:∀ x,qax ls' x=qax ls x) (ho:∀ (x:Int) (i:Nat),qax ls x=some i->qaB ls' i=qaB ls i):∀ {c:List Int} {x:Int},Ends ls x c->Ends ls' x c
 | [],_,h=>by rcases h.cases with ⟨_,e⟩ | ⟨_,_,_,e,_⟩ <;> cases e
 | y::r,x,h=>by
  rcases h.cases with ⟨h1,e⟩ | ⟨i,r',h1,e,hr⟩
  ·rw [e];exact Ends.stop ((hw x).trans h1)
  ·cases e
   refine Ends.step ((hw _).trans h1) ?_
   rw [ho _ i h1]
   exact qim hw ho hr
theorem qin {ls:List Lk} {j i:Nat} {m:Lk} (h:i≠j):qaB (ls.set j m) i=qaB ls i:=by
 unfold qaB
 rw [List.getElem?_set_ne (Ne.symm h)]
theorem qnr {ls:List Lk} {j:Nat} {m:Lk} (h:j < ls.length):qaB (ls.set j m) j=m.owner:=by
 unfold qaB
 rw [List.getElem?_set_self h]
theorem Right.owned {ls:List Lk} (R:Right ls) {j:Nat} {l:Lk} (hl:ls[j]?=some l) (hw:l.waits=[]) {o:Int} (ho:0 <= o /\ o <= 1000):Right (ls.set j ⟨o,[]⟩):=by
 have hj:=qdO hl
 have wsame:∀ x,qax (ls.set j ⟨o,[]⟩) x=qax ls x:=fun x=>qil (by simp) fun i m m' hm hm'=>by
  rcases qbn hm' with ⟨rfl,rfl⟩ | ⟨_,h⟩
  ·rw [hl] at hm;cases hm;rw [hw]
  ·rw [hm] at h;cases h;rfl
 have csame:∀ {c:List Int} {x:Int},Ends ls x c->Ends (ls.set j ⟨o,[]⟩) x c:=fun h=>qim wsame (fun x i hi=>qin fun e=>by
  obtain ⟨m,hm,hx,_⟩:=qda hi
  rw [e,hl] at hm;cases hm
  rw [hw] at hx;simp [hasB] at hx) h
 have nsame:∀ x,qaF (ls.set j ⟨o,[]⟩) x=qaF ls x:=fun x=>by
  have:=qfc (⟨o,[]⟩:Lk) x hl
  simp only [hw] at this
  omega
 refine ⟨by simpa using R.len,?_,?_,?_,?_,?_⟩
 ·intro i m hm
  rcases qbn hm with ⟨rfl,rfl⟩ | ⟨_,h⟩
  ·exact ho
  ·exact R.owner i m h
 ·intro i m hm
  rcases qbn hm with ⟨rfl,rfl⟩ | ⟨_,h⟩
  ·exact fun _=>rfl
  ·exact R.free i m h
 ·intro i m x hm hx
  rcases qbn hm with ⟨rfl,rfl⟩ | ⟨_,h⟩
  ·simp [hasB] at hx
  ·exact R.no i m x h hx
 ·intro i m x hm hx
  rw [nsame]
  rcases qbn hm with ⟨rfl,rfl⟩ | ⟨_,h⟩
  ·simp [hasB] at hx
  ·exact R.once i m x h hx
 ·intro i m x hm hx
  rcases qbn hm with ⟨rfl,rfl⟩ | ⟨_,h⟩
  ·simp [hasB] at hx
  ·obtain ⟨c,hc⟩:=R.ends i m x h hx
   exact ⟨c,csame hc⟩
theorem qio (xs ys:List Int) (x:Int):hasB (xs++ys) x=(hasB xs x||hasB ys x):=by simp [hasB]
section wait
variable {ls:List Lk} {j:Nat} {l:Lk} {no:Int}
theorem qeI (hl:ls[j]?=some l) (hn:qax ls no=none):(∀ x,x≠no->qax (ls.set j { l with waits:=l.waits++[no] }) x=qax ls x) /\ qax (ls.set j { l with waits:=l.waits++[no] }) no=some j:=by
 refine ⟨fun x hx=>qil (by simp) fun i m m' hm hm' => ?_,qgc (List.getElem?_set_self (qdO hl)) (by simp [hasB]) fun i m hi hm => ?_⟩
 ·rcases qbn hm' with ⟨rfl,rfl⟩ | ⟨_,h⟩
  ·rw [hl] at hm;cases hm
   simp only [qio]
   have:hasB [no] x=false:=by simp [hasB];exact fun e=>hx e.symm
   rw [this,Bool.or_false]
  ·rw [hm] at h;cases h;rfl
 ·rcases qbn hm with ⟨rfl,_⟩ | ⟨_,h⟩
  ·omega
  ·exact qfa hn i m h
theorem qfd (hl:ls[j]?=some l) (i:Nat):qaB (ls.set j { l with waits:=l.waits++[no] }) i=qaB ls i:=by
 by_cases e:i=j
 ·subst e;rw [qnr (qdO hl),qbS hl]
 ·exact qin e
theorem qge (hl:ls[j]?=some l) (hn:qax ls no=none):∀ {c:List Int} {x:Int},Ends ls x c->no ∉ c->Ends (ls.set j { l with waits:=l.waits++[no] }) x c
 | [],_,h,_=>by rcases h.cases with ⟨_,e⟩ | ⟨_,_,_,e,_⟩ <;> cases e
 | y::r,x,h,hc=>by
  rcases h.cases with ⟨h1,e⟩ | ⟨i,r',h1,e,hr⟩
  ·rw [e] at hc ⊢
   exact Ends.stop (((qeI hl hn).1 x (fun e=>hc (by rw [e];simp))).trans h1)
  ·cases e
   refine Ends.step (((qeI hl hn).1 _ (fun e=>hc (by rw [e];simp))).trans h1) ?_
   rw [qfd hl]
   exact qge hl hn hr (fun h=>hc (List.mem_cons_of_mem _ h))
theorem qip (hl:ls[j]?=some l) (hn:qax ls no=none) {d:List Int} (hd:Ends (ls.set j { l with waits:=l.waits++[no] }) l.owner d):∀ {c:List Int} {x:Int},Ends ls x c->no∈c->Ends (ls.set j { l with waits:=l.waits++[no] }) x (c++d)
 | [],_,h,_=>by rcases h.cases with ⟨_,e⟩ | ⟨_,_,_,e,_⟩ <;> cases e
 | y::r,x,h,hc=>by
  rcases h.cases with ⟨h1,e⟩ | ⟨i,r',h1,e,hr⟩
  ·rw [e] at hc ⊢
   have ex:x=no:=by have:=List.mem_singleton.1 hc;exact this.symm
   subst ex
   refine Ends.step (qeI hl hn).2 ?_
   rw [qfd hl,qbS hl]
   exact hd
  ·cases e
   have hx:y≠no:=fun e=>by rw [e,hn] at h1;cases h1
   refine Ends.step (((qeI hl hn).1 y hx).trans h1) ?_
   rw [qfd hl]
   refine qip hl hn hd hr ?_
   rcases List.mem_cons.1 hc with e | e
   ·exact absurd e.symm hx
   ·exact e
theorem Right.waited (R:Right ls) (hl:ls[j]?=some l) (h0:l.owner≠0) (hno:1 <= no /\ no <= 1000) (hn:qax ls no=none) {d:List Int} (hd:Ends ls l.owner d) (hnd:no ∉ d) :
  Right (ls.set j { l with waits:=l.waits++[no] }) /\ Ends (ls.set j { l with waits:=l.waits++[no] }) no (no::d):=by
 have hd':=qge hl hn hd hnd
 have e0:Ends (ls.set j { l with waits:=l.waits++[no] }) no (no::d):=by
  refine Ends.step (qeI hl hn).2 ?_
  rw [qfd hl,qbS hl]
  exact hd'
 have hz:∀ (i:Nat) (m:Lk),ls[i]?=some m->hasB m.waits no=false:=qfa hn
 have nsame:∀ x,x≠no->qaF (ls.set j { l with waits:=l.waits++[no] }) x=qaF ls x:=fun x hx=>by
  have:=qfc ({ l with waits:=l.waits++[no] }:Lk) x hl
  have c:qaQ (l.waits++[no]) x=qaQ l.waits x:=by
   unfold qaQ
   rw [List.filter_append]
   have:([no].filter fun y=>y==x)=[]:=by simp;exact fun e=>hx e.symm
   rw [this];simp
  simp only [c] at this
  omega
 have none':qaF (ls.set j { l with waits:=l.waits++[no] }) no=1:=by
  have:=qfc ({ l with waits:=l.waits++[no] }:Lk) no hl
  have c:qaQ (l.waits++[no]) no=qaQ l.waits no+1:=by unfold qaQ;simp
  simp only [c] at this
  have:=qnp hz
  omega
 have back:∀ (i:Nat) (m:Lk) (x:Int),(ls.set j { l with waits:=l.waits++[no] })[i]?=some m->hasB m.waits x=true->x=no∨∃ (k:Nat) (m0:Lk),ls[k]?=some m0 /\ hasB m0.waits x=true:=by
  intro i m x hm hx
  rcases qbn hm with ⟨rfl,rfl⟩ | ⟨_,h⟩
  ·simp only [qio,Bool.or_eq_true] at hx
   rcases hx with h | h
   ·exact .inr ⟨i,l,hl,h⟩
   ·left;simp [hasB] at h;exact h.symm
  ·exact .inr ⟨i,m,h,hx⟩
 refine ⟨⟨by simpa using R.len,?_,?_,?_,?_,?_⟩,e0⟩
 ·intro i m hm
  rcases qbn hm with ⟨rfl,rfl⟩ | ⟨_,h⟩
  ·exact R.owner i l hl
  ·exact R.owner i m h
 ·intro i m hm e
  rcases qbn hm with ⟨rfl,rfl⟩ | ⟨_,h⟩
  ·exact absurd e h0
  ·exact R.free i m h e
 ·intro i m x hm hx
  rcases back i m x hm hx with rfl | ⟨k,m0,h1,h2⟩
  ·exact hno
  ·exact R.no k m0 x h1 h2
 ·intro i m x hm hx
  by_cases e:x=no
  ·rw [e];exact none'
  ·rcases back i m x hm hx with h | ⟨k,m0,h1,h2⟩
   ·exact absurd h e
   ·rw [nsame x e];exact R.once k m0 x h1 h2
 ·intro i m x hm hx
  rcases back i m x hm hx with rfl | ⟨k,m0,h1,h2⟩
  ·exact ⟨_,e0⟩
  ·obtain ⟨c,hc⟩:=R.ends k m0 x h1 h2
   by_cases h:no∈c
   ·exact ⟨_,qip hl hn hd' hc h⟩
   ·exact ⟨_,qge hl hn hc h⟩
end wait
section free
variable {ls:List Lk} {j:Nat} {l:Lk} {next:Int}
end free
theorem qns {ls:List Lk} {no:Int} (h:decide (0 <= qaK ls no)=false):qax ls no=none:=by
 unfold qaK at h
 split at h
 ·simp at h
 ·assumption
def qnt (ls:List Lk) (i no:Int):Prop :=
 ((askN ls i no=2∨askN ls i no=3) /\ askL ls i no=ls) ∨
 (∃ (j:Nat) (l:Lk),i=(j:Int) /\ ls[j]?=some l /\ l.owner=0 /\ (1 <= no /\ no <= 1000) /\ qax ls no=none /\ askN ls i no=0 /\ askL ls i no=ls.set j ⟨no,[]⟩) ∨
 (∃ (j:Nat) (l:Lk),i=(j:Int) /\ ls[j]?=some l /\ hasB (qaR ls l.owner) no=true /\ askN ls i no=4 /\ askL ls i no=ls) ∨
 ∃ (j:Nat) (l:Lk),i=(j:Int) /\ ls[j]?=some l /\ l.owner≠0 /\ l.owner≠no /\ (1 <= no /\ no <= 1000) /\ qax ls no=none /\ hasB (qaR ls l.owner) no=false /\ askN ls i no=1 /\ askL ls i no=ls.set j { l with waits:=l.waits++[no] }
theorem qcm {ls:List Lk} (R:Right ls) (i no:Int):qnt ls i no:=by
 have hb:=qec.2 R
 have key:∀ n,askN ls i no=n->(n≠0 /\ n≠1->askL ls i no=ls) /\ (n=0->askL ls i no=ls.modify i.toNat (qcC no)) /\ (n=1->askL ls i no=ls.modify i.toNat (qe9 no)):=by
  rintro n rfl
  refine ⟨fun h => ?_,fun h => ?_,fun h => ?_⟩
  ·unfold askL;rw [hb];simp [h.1,h.2]
  ·unfold askL;rw [hb];simp [h]
  ·unfold askL;rw [hb];simp [h]
 by_cases c:(!inB i 0 ((ls.length:Int) - 1)||(!inB no 1 1000||decide (0 <= qaK ls no)))=true
 ·have e:askN ls i no=2:=by unfold askN;rw [hb,c];rfl
  exact .inl ⟨.inl e,(key 2 e).1 (by decide)⟩
 ·rw [Bool.not_eq_true,Bool.or_eq_false_iff,Bool.or_eq_false_iff] at c
  obtain ⟨c1,c2,c3⟩:=c
  have c1':=c1
  have c2':=c2
  rw [Bool.not_eq_false'] at c1' c2'
  obtain ⟨h0,h1⟩:=qap.1 c1'
  obtain ⟨j,rfl⟩:∃ j:Nat,i=(j:Int):=⟨i.toNat,by omega⟩
  have hj:j < ls.length:=by omega
  have hl:ls[j]?=some ls[j]:=List.getElem?_eq_getElem hj
  have hno:=qap.1 c2'
  have hn:=qns c3
  have go:askN ls (j:Int) no=if ls[j].owner==no then 3 else if ls[j].owner==0 then 0 else if hasB (qaR ls ls[j].owner) no then 4 else 1:=by
   unfold askN
   rw [hb,c1,c2,c3,Int.toNat_natCast,qbS hl]
   rfl
  cases c4:(ls[j].owner==no)
  ·cases c5:(ls[j].owner==0)
   ·cases c6:hasB (qaR ls ls[j].owner) no
    ·have e:askN ls (j:Int) no=1:=by rw [go,c4,c5,c6];rfl
     have e2:=(key 1 e).2.2 rfl
     rw [Int.toNat_natCast,qii hl] at e2
     exact .inr (.inr (.inr ⟨j,ls[j],rfl,hl,by simpa using c5,by simpa using c4,hno,hn,c6,e,e2⟩))
    ·have e:askN ls (j:Int) no=4:=by rw [go,c4,c5,c6];rfl
     exact .inr (.inr (.inl ⟨j,ls[j],rfl,hl,c6,e,(key 4 e).1 (by decide)⟩))
   ·have e:askN ls (j:Int) no=0:=by rw [go,c4,c5];rfl
    have e2:=(key 0 e).2.1 rfl
    have ho:ls[j].owner=0:=by simpa using c5
    rw [Int.toNat_natCast,qii hl] at e2
    have:qcC no ls[j]=⟨no,[]⟩:=by unfold qcC;rw [R.free j _ hl ho]
    rw [this] at e2
    exact .inr (.inl ⟨j,ls[j],rfl,hl,ho,hno,hn,e,e2⟩)
  ·have e:askN ls (j:Int) no=3:=by rw [go,c4];rfl
   exact .inl ⟨.inr e,(key 3 e).1 (by decide)⟩
theorem qnu {ls:List Lk} (R:Right ls) (i no:Int):Right (askL ls i no) /\ (askL ls i no).length=ls.length:=by
 rcases qcm R i no with ⟨_,e⟩ | ⟨j,l,hi,hl,h0,hno,hn,_,e⟩ | ⟨_,_,_,_,_,_,e⟩ | ⟨j,l,hi,hl,h0,h1,hno,hn,hc,_,e⟩
 ·rw [e];exact ⟨R,rfl⟩
 ·rw [e];exact ⟨R.owned hl (R.free j l hl h0) ⟨by omega,hno.2⟩,by simp⟩
 ·rw [e];exact ⟨R,rfl⟩
 ·rw [e]
  obtain ⟨d,hd⟩:=R.chain l.owner
  rw [qnq R hd] at hc
  exact ⟨(R.waited hl h0 hno hn hd (qeF.1 hc)).1,by simp⟩
theorem qnv {n:Nat} (h:n <= 5):Right (List.replicate n (⟨0,[]⟩:Lk)):=by
 have key:∀ (j:Nat) (l:Lk),(List.replicate n (⟨0,[]⟩:Lk))[j]?=some l->l=⟨0,[]⟩:=fun j l hl=>List.eq_of_mem_replicate (List.mem_of_getElem? hl)
 refine ⟨by simpa using h,?_,?_,?_,?_,?_⟩
 ·intro j l hl;rw [key j l hl];simp
 ·intro j l hl _;rw [key j l hl]
 ·intro j l x hl hx;rw [key j l hl] at hx;simp [hasB] at hx
 ·intro j l x hl hx;rw [key j l hl] at hx;simp [hasB] at hx
 ·intro j l x hl hx;rw [key j l hl] at hx;simp [hasB] at hx
def dueB (t:Tsk):Bool:=qae t&&t.cls==1
def qfe (t:Tsk) (now:Int):Bool:=decide (t.due <= now)||decide ((t.due - now)*t.q < t.left*t.p)
def qed (t:Tsk) (now:Int):Bool:=dueB t&&inB now 0 100000&&qfe t now
def qb3 (t:Tsk) (now:Int):Tsk:=if qed t now then { t with left:=t.q,due:=now+t.p } else t
def qeJ (t:Tsk) (now:Int):Bool:=dueB t&&inB now 0 100000&&decide (t.due <= now)
def qca (t:Tsk) (now:Int):Tsk:=if qeJ t now then { t with left:=t.q,due:=t.due+t.p } else t
def qff (t:Tsk):Bool:=dueB t&&decide (0 < t.left)
def qcL (t:Tsk):Tsk:=if qff t then { t with left:=t.left - 1 } else t
def qaT (a b:Tsk):Bool:=dueB a&&dueB b&&(decide (a.due < b.due)||a.due==b.due&&decide (a.no < b.no))
structure IsDue (t:Tsk):Prop where
 cls:t.cls=1
 no:1 <= t.no /\ t.no <= 1000
 cpu:0 <= t.cpu /\ t.cpu <= 3
 st:1 <= t.st /\ t.st <= 2
 p:1 <= t.p /\ t.p <= 40
 q:1 <= t.q /\ t.q <= t.p
 left:0 <= t.left /\ t.left <= t.q
 due:0 <= t.due /\ t.due <= 100040
 none:t.prio=0 /\ t.round=0 /\ t.seq=0 /\ t.nice=0 /\ t.v=0
theorem qgf (t:Tsk):dueB t=true↔IsDue t:=by
 constructor
 ·intro h
  simp only [dueB,Bool.and_eq_true,beq_iff_eq] at h
  obtain ⟨h1,h2⟩:=h
  simp [qae,qbp,qba,h2,fixZ,qbP,qap,qcG] at h1
  obtain ⟨⟨⟨⟨hno,hcpu⟩,hst⟩,hz⟩,⟨⟨hp,hq⟩,hl⟩,hd⟩:=h1
  exact ⟨h2,by omega,by omega,by omega,by omega,by omega,by omega,by omega,by omega,by omega,by omega,by omega,by omega⟩
 ·rintro ⟨h2,hno,hcpu,hst,hp,hq,hl,hd,h0,h1,h3,h4,h5⟩
  simp [dueB,qae,qbp,qba,h2,fixZ,qbP,qap,qcG,h0,h1,h3,h4,h5]
  omega
theorem qiq {a b A B:Int} (a0:0 <= a) (a1:a <= A) (b0:0 <= b) (b1:b <= B):0 <= a*b /\ a*b <= A*B :=
 ⟨Int.mul_nonneg a0 b0,Int.mul_le_mul a1 b1 b0 (by omega)⟩
def fixB (t:Tsk):Bool:=qae t&&t.cls==2
def qaS (a b:Tsk):Bool:=fixB a&&fixB b&&(if a.prio != b.prio then decide (b.prio < a.prio) else if a.seq != b.seq then decide (a.seq < b.seq) else decide (a.no < b.no))
def qcb (t:Tsk) (seq:Int):Bool:=fixB t && !(t.round==0) && !decide (1 < t.left)&&inB seq 0 1000000
def qcc (t:Tsk) (seq:Int):Tsk:=if fixB t && !(t.round==0) then (if decide (1 < t.left) then { t with left:=t.left - 1 } else if inB seq 0 1000000 then { t with left:=t.round,seq:=seq } else t) else t
structure IsFix (t:Tsk):Prop where
 cls:t.cls=2
 no:1 <= t.no /\ t.no <= 1000
 cpu:0 <= t.cpu /\ t.cpu <= 3
 st:1 <= t.st /\ t.st <= 2
 prio:1 <= t.prio /\ t.prio <= 20
 round:0 <= t.round /\ t.round <= 10
 left:min t.round 1 <= t.left /\ t.left <= t.round
 seq:0 <= t.seq /\ t.seq <= 1000000
 none:t.q=0 /\ t.p=0 /\ t.due=0 /\ t.nice=0 /\ t.v=0
theorem qgg (t:Tsk):fixB t=true↔IsFix t:=by
 constructor
 ·intro h
  simp only [fixB,Bool.and_eq_true,beq_iff_eq] at h
  obtain ⟨h1,h2⟩:=h
  simp [qae,qbp,qba,h2,dueZ,qbP,qap] at h1
  obtain ⟨⟨⟨⟨hno,hcpu⟩,hst⟩,hz⟩,⟨⟨hp,hr⟩,hl⟩,hs⟩:=h1
  exact ⟨h2,by omega,by omega,by omega,by omega,by omega,by omega,by omega,by omega,by omega,by omega,by omega,by omega⟩
 ·rintro ⟨h2,hno,hcpu,hst,hp,hr,hl,hs,h0,h1,h3,h4,h5⟩
  simp [fixB,qae,qbp,qba,h2,dueZ,qbP,qap,h0,h1,h3,h4,h5]
  omega
def qcd (t:Tsk) (seq i:Int):Tsk:=if i < t.left then { t with left:=t.left - i } else { t with left:=t.round - (i - t.left),seq:=seq }
def qaC (t:Tsk):Bool:=qae t&&t.cls==3
def qaU (a b:Tsk):Bool:=qaC a&&qaC b&&(decide (a.v < b.v)||a.v==b.v&&decide (a.no < b.no))
def qcD (t:Tsk) (x:Int):Tsk:=if inB x 0 100000000 then { t with v:=x } else t
def qdx (t:Tsk):Tsk:=if qaC t then qcD t (t.v+qaY t.nice) else t
def qdy (t:Tsk) (floor:Int):Tsk:=if qaC t then qcD t (max t.v floor) else t
def qdP (t:Tsk) (cpu frm dst:Int):Bool:=qaC t&&inB cpu 0 3&&inB frm 0 100000000&&inB dst 0 100000000 && !decide (100000000 < dst+max (t.v - frm) 0)
def qbT (t:Tsk) (cpu frm dst:Int):Tsk:=if qdP t cpu frm dst then { t with cpu:=cpu,v:=dst+max (t.v - frm) 0 } else t
def qbz (least:Int) (t:Tsk):Int:=if qaC t&&(decide (least < 0)||decide (t.v < least)) then t.v else least
def qir (ts:List Tsk):Int:=ts.foldl qbz (-1)
def qdz (ts:List Tsk) (floor:Int):Int:=if qir ts < 0 then floor else max floor (qir ts)
structure IsFair (t:Tsk):Prop where
 cls:t.cls=3
 no:1 <= t.no /\ t.no <= 1000
 cpu:0 <= t.cpu /\ t.cpu <= 3
 st:1 <= t.st /\ t.st <= 2
 nice : -4 <= t.nice /\ t.nice <= 4
 v:0 <= t.v /\ t.v <= 100000000
 none:t.q=0 /\ t.p=0 /\ t.left=0 /\ t.due=0 /\ t.prio=0 /\ t.round=0 /\ t.seq=0
theorem qis (t:Tsk):qaC t=true↔IsFair t:=by
 constructor
 ·intro h
  simp only [qaC,Bool.and_eq_true,beq_iff_eq] at h
  obtain ⟨h1,h2⟩:=h
  simp [qae,qbp,qba,h2,dueZ,fixZ,qap] at h1
  obtain ⟨⟨⟨⟨hno,hcpu⟩,hst⟩,hz⟩,hn,hv⟩:=h1
  exact ⟨h2,by omega,by omega,by omega,by omega,by omega,by omega,by omega,by omega,by omega,by omega,by omega,by omega⟩
 ·rintro ⟨h2,hno,hcpu,hst,hn,hv,h0,h1,h3,h4,h5,h6,h7⟩
  simp [qaC,qae,qbp,qba,h2,dueZ,fixZ,qap,h0,h1,h3,h4,h5,h6,h7]
  omega
theorem qnw (x:Int):0 <= qaY x /\ qaY x <= 48:=by
 unfold qaY
 repeat' split
 all_goals omega
end Go.Proofs.YthpdlbcdbncnhaaGreatDoor
