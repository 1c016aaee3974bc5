/-
  The contract of the model's l1In.
  Locks, as plain functions, and what holds of them.
  Locks: what is asked for and freed leaves right ones.
  Locks: freeing leaves right ones; what asking comes to.
  What is a nice: the contract of the model's NiceOk.
  What is a nice: the contract of the program's NiceOk.
  A struct is written over a block, cell by cell.
  Rows of elements of one size that lie one behind the other;
  Nothing old has turned, and a block holds its cells.
  All but one block is as it was.
  What every step from a walk to a given statement leans on.
  A part of time is right: contracts of the program's and of
  What is drawn: contracts of the model's cursor over a text'
  A row of one's own that grows by append: elements of one si
  A row of one's own that grows beside a cursor that turns.
  Rows of numbers: the laws' own helpers over them.
  What a heap's walk needs of every kind: loops of two rounds
  Weights and steps: the model's, and the laws' walks over co
  A list of bytes that comes in as an argument: what its read
  Rows of locks: each has its own row of those that wait.
  Rows of locks: the laws' own helpers over them.
  Locks: contracts of the model's functions that only read.
-/
import Derived.Test.YteagpjlgjfaclaaGreatDoorBase
import Derived.Deep.OwnRows
import Derived.Test.YteagpjlgjfaclaaGreatDoorRows
import Derived.WalkKit
import Derived.ProofKit
import Derived.OpenShut
import Derived.ShutString
import Derived.ChangeOld
import Derived.Lib.SmallJoins
import Derived.Laws.ResultCell
import Derived.Deep.AppendLies
import Derived.Laws.OwnMore
import Derived.Deep.RegionLaw
import Derived.BigRegion
import Derived.Deep.RegionHeld3
namespace Go.Proofs.YteagpjlgjfaclaaGreatDoor
set_option maxRecDepth 100000
open Go.RowKit
theorem qag (x lo hi:Int) (w:World) :
  Calls Tryz.prog 27 #[.int .i64 x,.int .i64 lo,.int .i64 hi] w fun e w'=>e = .returned (.bool (inB x lo hi)) /\ w'=w:=by
 by_cases h1:lo <= x
 ·by_cases h2:x <= hi
  ·have Hr:Hid (inB x lo hi=true):=qeR h1 h2
   go_enter Tryz.func27,Tryz.ntmps27
   go_wp2
   go_ret
   exact ⟨by rw [Hr.out];rfl,rfl⟩
  ·have Hr:Hid (inB x lo hi=false):=qdj (.inr (by omega))
   have hd:decide (x <= hi)=false:=by simpa using h2
   go_enter Tryz.func27,Tryz.ntmps27
   go_wp2
   go_ret
   exact ⟨by rw [Hr.out];rfl,rfl⟩
 ·have Hr:Hid (inB x lo hi=false):=qdj (.inl (by omega))
  have hd:decide (lo <= x)=false:=by simpa using h1
  go_enter Tryz.func27,Tryz.ntmps27
  go_wp2
  go_ret
  exact ⟨by rw [Hr.out];rfl,rfl⟩
end Go.Proofs.YteagpjlgjfaclaaGreatDoor
namespace Go.Proofs.YteagpjlgjfaclaaGreatDoor
set_option maxRecDepth 100000
open Go.RowKit
structure Lk where
 owner:Int
 waits:List Int
def hasB (xs:List Int) (x:Int):Bool:=xs.any fun y=>y==x
theorem qcK {xs:List Int} {x:Int}:hasB xs x=true↔x∈xs:=by simp [hasB]
theorem qfk {xs:List Int} {x:Int}:hasB xs x=false↔x ∉ xs:=by rw [<- qcK];simp
def qay (ls:List Lk) (no:Int):Option Nat:=ls.findIdx? fun l=>hasB l.waits no
def qaJ (ls:List Lk) (no:Int):Int:=match qay ls no with
 | some i=>i
 | none => -1
def qaE (ls:List Lk) (i:Nat):Int:=match ls[i]? with
 | some l=>l.owner
 | none=>0
def qap (ls:List Lk):Nat->Int->List Int × Bool
 | 0,no=>([no],false)
 | f+1,no=>match qay ls no with
  | none=>([no],true)
  | some i=>(no::(qap ls f (qaE ls i)).1,(qap ls f (qaE ls i)).2)
def qaQ (xs:List Int) (no:Int):Nat:=(xs.filter fun y=>y==no).length
def qaG:List Lk->Int->Nat
 | [],_=>0
 | l::r,no=>qaQ l.waits no+qaG r no
def qbJ (ls:List Lk) (no:Int):Bool:=(qap ls (ls.length+1) no).2&&(inB no 1 1000&&qaG ls no==1)
def qbz (ls:List Lk) (l:Lk):Bool:=inB l.owner 0 1000&&(!(l.owner==0&&decide (0 < l.waits.length))&&l.waits.all (qbJ ls))
def qax (ls:List Lk):Bool:=decide (ls.length <= 5)&&ls.all (qbz ls)
def qbu (ls:List Lk) (no:Int):List Int:=if qax ls then (qap ls (ls.length+1) no).1 else []
def qck (ls:List Lk) (no:Int):Bool:=ls.any fun l=>no != 0&&l.owner==no
def qcl (no:Int) (l:Lk):Lk:={ l with owner:=no }
def qez (no:Int) (l:Lk):Lk:={ l with waits:=l.waits++[no] }
def qbi (xs:List Int) (x:Int):List Int:=xs.filter fun y=>y != x
def qdI (next:Int) (l:Lk):Lk:=⟨next,qbi l.waits next⟩
def askN (ls:List Lk) (i no:Int):Int :=
 if !qax ls then 2 else if !inB i 0 ((ls.length:Int) - 1)||(!inB no 1 1000||decide (0 <= qaJ ls no)) then 2
 else if qaE ls i.toNat==no then 3 else if qaE ls i.toNat==0 then 0 else if hasB (qbu ls (qaE ls i.toNat)) no then 4 else 1
def askL (ls:List Lk) (i no:Int):List Lk :=
 if !qax ls then [] else if askN ls i no==0 then ls.modify i.toNat (qcl no) else if askN ls i no==1 then ls.modify i.toNat (qez no) else ls
def qcL (ls:List Lk) (i:Nat):List Int:=match ls[i]? with
 | some l=>l.waits
 | none=>[]
def qd6 (xs:List Int) (next:Int):Bool:=if xs.length==0 then next==0 else hasB xs next
def qbv (ls:List Lk) (i no next:Int):Bool :=
 qax ls&&(inB i 0 ((ls.length:Int) - 1)&&(!(no==0)&&(qaE ls i.toNat==no&&qd6 (qcL ls i.toNat) next)))
def qaX (ls:List Lk) (i no next:Int):List Lk :=
 if !qax ls then [] else if qbv ls i no next then ls.modify i.toNat (qdI next) else ls
section chains
variable {ls:List Lk}
theorem qc6 {no:Int} {i:Nat} (h:qay ls no=some i):∃ l,ls[i]?=some l /\ hasB l.waits no=true /\ ∀ j m,j < i->ls[j]?=some m->hasB m.waits no=false:=by
 obtain ⟨hi,h1,h2⟩:=List.findIdx?_eq_some_iff_getElem.1 h
 refine ⟨ls[i],List.getElem?_eq_getElem hi,h1,fun j m hj hm => ?_⟩
 have hj':j < ls.length:=by omega
 rw [List.getElem?_eq_getElem hj'] at hm
 cases hm
 simpa using h2 j hj
theorem qeA {no:Int} (h:qay ls no=none):∀ (j:Nat) (m:Lk),ls[j]?=some m->hasB m.waits no=false:=by
 intro j m hm
 have:=List.findIdx?_eq_none_iff.1 h m (List.mem_of_getElem? hm)
 simpa using this
theorem qfl {no:Int} {i:Nat} {l:Lk} (h0:ls[i]?=some l) (h1:hasB l.waits no=true) (h2:∀ j m,j < i->ls[j]?=some m->hasB m.waits no=false):qay ls no=some i:=by
 have hi:i < ls.length:=by
  rcases Nat.lt_or_ge i ls.length with h | h
  ·exact h
  ·rw [List.getElem?_eq_none h] at h0;cases h0
 refine List.findIdx?_eq_some_iff_getElem.2 ⟨hi,?_,fun j hj => ?_⟩
 ·rw [List.getElem?_eq_getElem hi] at h0;cases h0;exact h1
 ·simpa using h2 j ls[j] hj (List.getElem?_eq_getElem _)
theorem qfm {no:Int} (h:∀ (j:Nat) (m:Lk),ls[j]?=some m->hasB m.waits no=false):qay ls no=none:=by
 refine List.findIdx?_eq_none_iff.2 fun m hm => ?_
 obtain ⟨j,hj,rfl⟩:=List.mem_iff_getElem.1 hm
 simpa using h j _ (List.getElem?_eq_getElem hj)
theorem qbT {i:Nat} {l:Lk} (h:ls[i]?=some l):qaE ls i=l.owner:=by simp [qaE,h]
theorem qdJ {f:Nat} {no:Int} (h:qay ls no=none):qap ls (f+1) no=([no],true):=by simp [qap,h]
theorem qdK {f:Nat} {no:Int} {i:Nat} (h:qay ls no=some i):qap ls (f+1) no=(no::(qap ls f (qaE ls i)).1,(qap ls f (qaE ls i)).2):=by simp [qap,h]
def Ends (ls:List Lk) (no:Int) (c:List Int):Prop:=∃ f,qap ls f no=(c,true)
theorem Ends.cases {no:Int} {c:List Int} (h:Ends ls no c):(qay ls no=none /\ c=[no])∨∃ i r,qay ls no=some i /\ c=no::r /\ Ends ls (qaE ls i) r:=by
 obtain ⟨f,h⟩:=h
 cases f with
 | zero=>simp [qap] at h
 | succ f =>
  cases hw:qay ls no with
  | none=>rw [qdJ hw] at h;cases h;exact .inl ⟨rfl,rfl⟩
  | some i =>
   rw [qdK hw] at h
   simp only [Prod.mk.injEq] at h
   exact .inr ⟨i,_,rfl,h.1.symm,f,Prod.ext rfl h.2⟩
theorem Ends.stop {no:Int} (h:qay ls no=none):Ends ls no [no]:=⟨1,qdJ h⟩
theorem Ends.step {no:Int} {i:Nat} {r:List Int} (h:qay ls no=some i) (hr:Ends ls (qaE ls i) r):Ends ls no (no::r):=by
 obtain ⟨f,hf⟩:=hr
 exact ⟨f+1,by rw [qdK h,hf]⟩
theorem Ends.one:∀ {c d:List Int} {no:Int},Ends ls no c->Ends ls no d->c=d
 | [],_,_,h,_=>by rcases h.cases with ⟨_,e⟩ | ⟨_,_,_,e,_⟩ <;> cases e
 | x::r,d,no,h,h'=>by
  rcases h.cases with ⟨hw,e⟩ | ⟨i,r',hw,e,hr⟩
  ·rcases h'.cases with ⟨_,e'⟩ | ⟨i',_,hw',_,_⟩
   ·rw [e,e']
   ·rw [hw] at hw';cases hw'
  ·cases e
   rcases h'.cases with ⟨hw',_⟩ | ⟨i',r'',hw',e',hr'⟩
   ·rw [hw] at hw';cases hw'
   ·rw [hw] at hw';cases hw'
    rw [e',Ends.one hr hr']
theorem Ends.fuel:∀ {c:List Int} {no:Int},Ends ls no c->∀ g,c.length <= g->qap ls g no=(c,true)
 | [],_,h,_,_=>by rcases h.cases with ⟨_,e⟩ | ⟨_,_,_,e,_⟩ <;> cases e
 | x::r,no,h,0,hg=>by simp at hg
 | x::r,no,h,g+1,hg=>by
  rcases h.cases with ⟨hw,e⟩ | ⟨i,r',hw,e,hr⟩
  ·rw [qdJ hw,e]
  ·cases e
   rw [qdK hw,Ends.fuel hr g (by simpa using hg)]
theorem Ends.head {no:Int} {c:List Int} (h:Ends ls no c):c[0]?=some no:=by
 rcases h.cases with ⟨_,rfl⟩ | ⟨_,_,_,rfl,_⟩ <;> rfl
theorem Ends.drop:∀ {p:Nat} {c:List Int} {no y:Int},Ends ls no c->c[p]?=some y->Ends ls y (c.drop p)
 | 0,c,no,y,h,hy=>by
  rw [h.head] at hy
  cases hy
  simpa using h
 | p+1,c,no,y,h,hy=>by
  rcases h.cases with ⟨_,rfl⟩ | ⟨i,r,_,rfl,hr⟩
  ·simp at hy
  ·have:=Ends.drop (p:=p) hr (by simpa using hy)
   simpa using this
theorem Ends.nodup {c:List Int} {no:Int} (h:Ends ls no c) {p q:Nat} {y:Int} (hp:c[p]?=some y) (hq:c[q]?=some y):p=q:=by
 have e:=Ends.one (h.drop hp) (h.drop hq)
 have lp:p < c.length:=by
  rcases Nat.lt_or_ge p c.length with h | h
  ·exact h
  ·rw [List.getElem?_eq_none h] at hp;cases hp
 have lq:q < c.length:=by
  rcases Nat.lt_or_ge q c.length with h | h
  ·exact h
  ·rw [List.getElem?_eq_none h] at hq;cases hq
 have:=congrArg List.length e
 simp only [List.length_drop] at this
 omega
theorem Ends.next {c:List Int} {no:Int} (h:Ends ls no c) {p:Nat} {y z:Int} (hp:c[p]?=some y) (hz:c[p+1]?=some z):∃ i,qay ls y=some i /\ qaE ls i=z:=by
 rcases (h.drop hp).cases with ⟨_,e⟩ | ⟨i,r,hw,e,hr⟩
 ·have:(c.drop p)[1]?=some z:=by rw [List.getElem?_drop,<- hz]
  rw [e] at this;simp at this
 ·have:(c.drop p)[1]?=some z:=by rw [List.getElem?_drop,<- hz]
  rw [e] at this
  have h0:=hr.head
  simp only [List.getElem?_cons_succ] at this
  rw [h0] at this
  exact ⟨i,hw,by simpa using this⟩
theorem qeB:∀ (n m:Nat) (f:Nat->Nat),(∀ i,i < m->f i < n)->(∀ i j,i < m->j < m->f i=f j->i=j)->m <= n
 | 0,m,f,h,_=>by
  rcases Nat.eq_zero_or_pos m with e | e
  ·omega
  ·exact absurd (h 0 e) (Nat.not_lt_zero _)
 | n+1,m,f,h,hi=>by
  by_cases hx:∃ k,k < m /\ f k=n
  ·obtain ⟨k,hk,e⟩:=hx
   have:=qeB n (m - 1) (fun i=>f (if i < k then i else i+1)) (fun i hm=>by
    split
    ·have h1:=h i (by omega)
     have h2:f i≠n:=fun h3=>by have:=hi i k (by omega) hk (h3.trans e.symm);omega
     omega
    ·have h1:=h (i+1) (by omega)
     have h2:f (i+1)≠n:=fun h3=>by have:=hi (i+1) k (by omega) hk (h3.trans e.symm);omega
     omega) (fun i j hm hj he=>by
    split at he <;> split at he <;> (have:=hi _ _ (by omega) (by omega) he;omega))
   omega
  ·have:=qeB n m f (fun i hm=>by
    have h1:=h i hm
    have h2:f i≠n:=fun h3=>hx ⟨i,hm,h3⟩
    omega) hi
   omega
theorem Ends.bound {c:List Int} {no:Int} (h:Ends ls no c):c.length <= ls.length+1:=by
 have key:∀ p,p < c.length - 1->∃ i,qay ls (c.getD p 0)=some i /\ i < ls.length /\ qaE ls i=c.getD (p+1) 0:=by
  intro p hp
  have h1:c[p]?=some (c.getD p 0):=by rw [List.getD_eq_getElem?_getD,List.getElem?_eq_getElem (by omega)];rfl
  have h2:c[p+1]?=some (c.getD (p+1) 0):=by rw [List.getD_eq_getElem?_getD,List.getElem?_eq_getElem (by omega)];rfl
  obtain ⟨i,hi,ho⟩:=h.next h1 h2
  obtain ⟨l,hl,_⟩:=qc6 hi
  refine ⟨i,hi,?_,ho⟩
  rcases Nat.lt_or_ge i ls.length with h | h
  ·exact h
  ·rw [List.getElem?_eq_none h] at hl;cases hl
 have:=qeB ls.length (c.length - 1) (fun p=>(qay ls (c.getD p 0)).getD 0) (fun p hp=>by
  obtain ⟨i,hi,hlt,_⟩:=key p hp
  simp only [hi,Option.getD_some];exact hlt) (fun p q hp hq e=>by
  obtain ⟨i,hi,_,ho⟩:=key p hp
  obtain ⟨j,hj,_,ho'⟩:=key q hq
  simp only [hi,hj,Option.getD_some] at e
  subst e
  have h1:c[p+1]?=some (c.getD (p+1) 0):=by rw [List.getD_eq_getElem?_getD,List.getElem?_eq_getElem (by omega)];rfl
  have h2:c[q+1]?=some (c.getD (q+1) 0):=by rw [List.getD_eq_getElem?_getD,List.getElem?_eq_getElem (by omega)];rfl
  rw [<- ho,ho'] at h1
  have:=h.nodup h1 h2
  omega)
 omega
theorem qfn {no:Int}:(qap ls (ls.length+1) no).2=true↔∃ c,Ends ls no c:=by
 constructor
 ·intro h;exact ⟨(qap ls (ls.length+1) no).1,_,Prod.ext rfl h⟩
 ·rintro ⟨c,h⟩;rw [h.fuel _ h.bound]
theorem Ends.is {no:Int} {c:List Int} (h:Ends ls no c):qap ls (ls.length+1) no=(c,true):=h.fuel _ h.bound
end chains
end Go.Proofs.YteagpjlgjfaclaaGreatDoor
namespace Go.Proofs.YteagpjlgjfaclaaGreatDoor
set_option maxRecDepth 100000
open Go.RowKit
theorem qdr {α:Type} {xs:List α} {k:Nat} {x:α} (h:xs[k]?=some x):k < xs.length:=by
 rcases Nat.lt_or_ge k xs.length with h' | h'
 ·exact h'
 ·rw [List.getElem?_eq_none h'] at h;cases h
theorem qbm {ls:List Lk} {k i:Nat} {m y:Lk} (h:(ls.set k y)[i]?=some m):(i=k /\ m=y)∨(i≠k /\ ls[i]?=some m):=by
 by_cases e:k=i
 ·subst e
  have hl:k < ls.length:=by have:=qdr h;simpa using this
  rw [List.getElem?_set_self hl] at h
  cases h;exact .inl ⟨rfl,rfl⟩
 ·rw [List.getElem?_set_ne e] at h
  exact .inr ⟨Ne.symm e,h⟩
theorem qgP {ls:List Lk} {i:Nat} {l:Lk} (h:ls[i]?=some l) (f:Lk->Lk):ls.modify i f=ls.set i (f l):=by
 apply List.ext_getElem?
 intro j
 by_cases e:i=j
 ·subst e
  rw [List.getElem?_modify,List.getElem?_set_self (qdr h),h]
  simp
 ·rw [List.getElem?_modify,List.getElem?_set_ne e]
  simp [e]
theorem qgQ {xs:List Int} {x:Int}:0 < qaQ xs x↔hasB xs x=true:=by
 unfold qaQ hasB
 rw [List.length_pos_iff_exists_mem,List.any_eq_true]
 constructor
 ·rintro ⟨y,hy⟩;rw [List.mem_filter] at hy;exact ⟨y,hy.1,hy.2⟩
 ·rintro ⟨y,h1,h2⟩;exact ⟨y,List.mem_filter.2 ⟨h1,h2⟩⟩
theorem qgR {xs:List Int} {x:Int}:qaQ xs x=0↔hasB xs x=false:=by
 have:=qgQ (xs:=xs) (x:=x)
 cases h:hasB xs x
 ·rw [h] at this;simp at this;simp;exact this
 ·rw [h] at this;simp at this;simp;omega
theorem qeC:∀ {ls:List Lk} {j:Nat} {l:Lk} (m:Lk) (x:Int),ls[j]?=some l->qaG (ls.set j m) x+qaQ l.waits x=qaG ls x+qaQ m.waits x
 | [],j,l,m,x,h=>by simp at h
 | y::r,0,l,m,x,h=>by
  simp at h
  subst h
  simp only [List.set_cons_zero,qaG]
  omega
 | y::r,j+1,l,m,x,h=>by
  have:=qeC (ls:=r) (j:=j) m x (by simpa using h)
  simp only [List.set_cons_succ,qaG]
  omega
theorem qk9 {ls:List Lk} {x:Int} (h:∀ (j:Nat) (l:Lk),ls[j]?=some l->hasB l.waits x=false):qaG ls x=0:=by
 induction ls with
 | nil=>rfl
 | cons y r ih =>
  have h0:=qgR.2 (h 0 y rfl)
  have h1:=ih fun j l hl=>h (j+1) l (by simpa using hl)
  simp only [qaG];omega
structure Right (ls:List Lk):Prop where
 len:ls.length <= 5
 owner:∀ (j:Nat) (l:Lk),ls[j]?=some l->0 <= l.owner /\ l.owner <= 1000
 free:∀ (j:Nat) (l:Lk),ls[j]?=some l->l.owner=0->l.waits=[]
 no:∀ (j:Nat) (l:Lk) (x:Int),ls[j]?=some l->hasB l.waits x=true->1 <= x /\ x <= 1000
 once:∀ (j:Nat) (l:Lk) (x:Int),ls[j]?=some l->hasB l.waits x=true->qaG ls x=1
 ends:∀ (j:Nat) (l:Lk) (x:Int),ls[j]?=some l->hasB l.waits x=true->∃ c,Ends ls x c
theorem qd7 {ls:List Lk}:qax ls=true↔Right ls:=by
 unfold qax
 simp only [Bool.and_eq_true,decide_eq_true_eq,List.all_eq_true]
 have wb:∀ x,qbJ ls x=true↔(∃ c,Ends ls x c) /\ (1 <= x /\ x <= 1000) /\ qaG ls x=1:=by
  intro x
  unfold qbJ
  rw [Bool.and_eq_true,Bool.and_eq_true,qfn,qas,beq_iff_eq]
 have lb:∀ l,qbz ls l=true↔(0 <= l.owner /\ l.owner <= 1000) /\ (l.owner=0->l.waits=[]) /\ ∀ x,hasB l.waits x=true->qbJ ls x=true:=by
  intro l
  unfold qbz
  rw [Bool.and_eq_true,Bool.and_eq_true,qas,List.all_eq_true]
  refine and_congr Iff.rfl (and_congr ?_ ?_)
  ·rw [Bool.not_eq_true',Bool.and_eq_false_iff]
   constructor
   ·rintro (h | h) e
    ·simp [e] at h
    ·simp at h;exact h
   ·intro h
    by_cases e:l.owner=0
    ·right;rw [h e];rfl
    ·left;simpa using e
  ·constructor
   ·intro h x hx;exact h x (qcK.1 hx)
   ·intro h x hx;exact h x (qcK.2 hx)
 constructor
 ·rintro ⟨h1,h2⟩
  have key:∀ (j:Nat) (l:Lk),ls[j]?=some l->qbz ls l=true:=fun j l hl=>h2 l (List.mem_of_getElem? hl)
  exact ⟨h1,fun j l hl=>((lb l).1 (key j l hl)).1,fun j l hl=>((lb l).1 (key j l hl)).2.1,fun j l x hl hx=>((wb x).1 (((lb l).1 (key j l hl)).2.2 x hx)).2.1,fun j l x hl hx=>((wb x).1 (((lb l).1 (key j l hl)).2.2 x hx)).2.2,fun j l x hl hx=>((wb x).1 (((lb l).1 (key j l hl)).2.2 x hx)).1⟩
 ·intro R
  refine ⟨R.len,fun l hl => ?_⟩
  obtain ⟨j,hj,rfl⟩:=List.mem_iff_getElem.1 hl
  have e:=List.getElem?_eq_getElem hj
  exact (lb _).2 ⟨R.owner j _ e,R.free j _ e,fun x hx=>(wb x).2 ⟨R.ends j _ x e hx,R.no j _ x e hx,R.once j _ x e hx⟩⟩
theorem Right.chain {ls:List Lk} (R:Right ls) (x:Int):∃ c,Ends ls x c:=by
 cases h:qay ls x with
 | none=>exact ⟨_,Ends.stop h⟩
 | some i =>
  obtain ⟨l,hl,hx,_⟩:=qc6 h
  exact R.ends i l x hl hx
theorem qla {ls:List Lk} (R:Right ls) {x:Int} {c:List Int} (h:Ends ls x c):qbu ls x=c:=by
 unfold qbu
 rw [qd7.2 R,h.is];rfl
theorem qgS {ls ls':List Lk} {x:Int} (hl:ls'.length=ls.length) (h:∀ (j:Nat) (m m':Lk),ls[j]?=some m->ls'[j]?=some m'->hasB m'.waits x=hasB m.waits x):qay ls' x=qay ls x:=by
 have get:∀ (j:Nat) (m':Lk),ls'[j]?=some m'->∃ m,ls[j]?=some m:=fun j m' hm=>⟨ls[j]'(by have:=qdr hm;omega),List.getElem?_eq_getElem _⟩
 cases hw:qay ls x with
 | none =>
  refine qfm fun j m' hm => ?_
  obtain ⟨m,hm0⟩:=get j m' hm
  rw [h j m m' hm0 hm];exact qeA hw j m hm0
 | some i =>
  obtain ⟨l,hl1,hx,hmin⟩:=qc6 hw
  have hi:i < ls'.length:=by have:=qdr hl1;omega
  refine qfl (List.getElem?_eq_getElem hi) ?_ fun j m' hj hm => ?_
  ·rw [h i l _ hl1 (List.getElem?_eq_getElem hi)];exact hx
  ·obtain ⟨m,hm0⟩:=get j m' hm
   rw [h j m m' hm0 hm];exact hmin j m hj hm0
theorem qgT {ls ls':List Lk} (hw:∀ x,qay ls' x=qay ls x) (ho:∀ (x:Int) (i:Nat),qay ls x=some i->qaE ls' i=qaE ls i):∀ {c:List Int} {x:Int},Ends ls x c->Ends ls' x c
 | [],_,h=>by rcases h.cases with ⟨_,e⟩ | ⟨_,_,_,e,_⟩ <;> cases e
 | y::r,x,h=>by
  rcases h.cases with ⟨h1,e⟩ | ⟨i,r',h1,e,hr⟩
  ·rw [e];exact Ends.stop ((hw x).trans h1)
  ·cases e
   refine Ends.step ((hw _).trans h1) ?_
   rw [ho _ i h1]
   exact qgT hw ho hr
theorem qgU {ls:List Lk} {j i:Nat} {m:Lk} (h:i≠j):qaE (ls.set j m) i=qaE ls i:=by
 unfold qaE
 rw [List.getElem?_set_ne (Ne.symm h)]
theorem qlb {ls:List Lk} {j:Nat} {m:Lk} (h:j < ls.length):qaE (ls.set j m) j=m.owner:=by
 unfold qaE
 rw [List.getElem?_set_self h]
theorem Right.owned {ls:List Lk} (R:Right ls) {j:Nat} {l:Lk} (hl:ls[j]?=some l) (hw:l.waits=[]) {o:Int} (ho:0 <= o /\ o <= 1000):Right (ls.set j ⟨o,[]⟩):=by
 have hj:=qdr hl
 have wsame:∀ x,qay (ls.set j ⟨o,[]⟩) x=qay ls x:=fun x=>qgS (by simp) fun i m m' hm hm'=>by
  rcases qbm hm' with ⟨rfl,rfl⟩ | ⟨_,h⟩
  ·rw [hl] at hm;cases hm;rw [hw]
  ·rw [hm] at h;cases h;rfl
 have csame:∀ {c:List Int} {x:Int},Ends ls x c->Ends (ls.set j ⟨o,[]⟩) x c:=fun h=>qgT wsame (fun x i hi=>qgU fun e=>by
  obtain ⟨m,hm,hx,_⟩:=qc6 hi
  rw [e,hl] at hm;cases hm
  rw [hw] at hx;simp [hasB] at hx) h
 have nsame:∀ x,qaG (ls.set j ⟨o,[]⟩) x=qaG ls x:=fun x=>by
  have:=qeC (⟨o,[]⟩:Lk) x hl
  simp only [hw] at this
  omega
 refine ⟨by simpa using R.len,?_,?_,?_,?_,?_⟩
 ·intro i m hm
  rcases qbm hm with ⟨rfl,rfl⟩ | ⟨_,h⟩
  ·exact ho
  ·exact R.owner i m h
 ·intro i m hm
  rcases qbm hm with ⟨rfl,rfl⟩ | ⟨_,h⟩
  ·exact fun _=>rfl
  ·exact R.free i m h
 ·intro i m x hm hx
  rcases qbm hm with ⟨rfl,rfl⟩ | ⟨_,h⟩
  ·simp [hasB] at hx
  ·exact R.no i m x h hx
 ·intro i m x hm hx
  rw [nsame]
  rcases qbm hm with ⟨rfl,rfl⟩ | ⟨_,h⟩
  ·simp [hasB] at hx
  ·exact R.once i m x h hx
 ·intro i m x hm hx
  rcases qbm hm with ⟨rfl,rfl⟩ | ⟨_,h⟩
  ·simp [hasB] at hx
  ·obtain ⟨c,hc⟩:=R.ends i m x h hx
   exact ⟨c,csame hc⟩
theorem qgV (xs ys:List Int) (x:Int):hasB (xs++ys) x=(hasB xs x||hasB ys x):=by simp [hasB]
section wait
variable {ls:List Lk} {j:Nat} {l:Lk} {no:Int}
theorem qd8 (hl:ls[j]?=some l) (hn:qay ls no=none):(∀ x,x≠no->qay (ls.set j { l with waits:=l.waits++[no] }) x=qay ls x) /\ qay (ls.set j { l with waits:=l.waits++[no] }) no=some j:=by
 refine ⟨fun x hx=>qgS (by simp) fun i m m' hm hm' => ?_,qfl (List.getElem?_set_self (qdr hl)) (by simp [hasB]) fun i m hi hm => ?_⟩
 ·rcases qbm hm' with ⟨rfl,rfl⟩ | ⟨_,h⟩
  ·rw [hl] at hm;cases hm
   simp only [qgV]
   have:hasB [no] x=false:=by simp [hasB];exact fun e=>hx e.symm
   rw [this,Bool.or_false]
  ·rw [hm] at h;cases h;rfl
 ·rcases qbm hm with ⟨rfl,_⟩ | ⟨_,h⟩
  ·omega
  ·exact qeA hn i m h
theorem qeD (hl:ls[j]?=some l) (i:Nat):qaE (ls.set j { l with waits:=l.waits++[no] }) i=qaE ls i:=by
 by_cases e:i=j
 ·subst e;rw [qlb (qdr hl),qbT hl]
 ·exact qgU e
theorem qfo (hl:ls[j]?=some l) (hn:qay ls no=none):∀ {c:List Int} {x:Int},Ends ls x c->no ∉ c->Ends (ls.set j { l with waits:=l.waits++[no] }) x c
 | [],_,h,_=>by rcases h.cases with ⟨_,e⟩ | ⟨_,_,_,e,_⟩ <;> cases e
 | y::r,x,h,hc=>by
  rcases h.cases with ⟨h1,e⟩ | ⟨i,r',h1,e,hr⟩
  ·rw [e] at hc ⊢
   exact Ends.stop (((qd8 hl hn).1 x (fun e=>hc (by rw [e];simp))).trans h1)
  ·cases e
   refine Ends.step (((qd8 hl hn).1 _ (fun e=>hc (by rw [e];simp))).trans h1) ?_
   rw [qeD hl]
   exact qfo hl hn hr (fun h=>hc (List.mem_cons_of_mem _ h))
theorem qgW (hl:ls[j]?=some l) (hn:qay ls no=none) {d:List Int} (hd:Ends (ls.set j { l with waits:=l.waits++[no] }) l.owner d):∀ {c:List Int} {x:Int},Ends ls x c->no∈c->Ends (ls.set j { l with waits:=l.waits++[no] }) x (c++d)
 | [],_,h,_=>by rcases h.cases with ⟨_,e⟩ | ⟨_,_,_,e,_⟩ <;> cases e
 | y::r,x,h,hc=>by
  rcases h.cases with ⟨h1,e⟩ | ⟨i,r',h1,e,hr⟩
  ·rw [e] at hc ⊢
   have ex:x=no:=by have:=List.mem_singleton.1 hc;exact this.symm
   subst ex
   refine Ends.step (qd8 hl hn).2 ?_
   rw [qeD hl,qbT hl]
   exact hd
  ·cases e
   have hx:y≠no:=fun e=>by rw [e,hn] at h1;cases h1
   refine Ends.step (((qd8 hl hn).1 y hx).trans h1) ?_
   rw [qeD hl]
   refine qgW hl hn hd hr ?_
   rcases List.mem_cons.1 hc with e | e
   ·exact absurd e.symm hx
   ·exact e
theorem Right.waited (R:Right ls) (hl:ls[j]?=some l) (h0:l.owner≠0) (hno:1 <= no /\ no <= 1000) (hn:qay ls no=none) {d:List Int} (hd:Ends ls l.owner d) (hnd:no ∉ d) :
  Right (ls.set j { l with waits:=l.waits++[no] }) /\ Ends (ls.set j { l with waits:=l.waits++[no] }) no (no::d):=by
 have hd':=qfo hl hn hd hnd
 have e0:Ends (ls.set j { l with waits:=l.waits++[no] }) no (no::d):=by
  refine Ends.step (qd8 hl hn).2 ?_
  rw [qeD hl,qbT hl]
  exact hd'
 have hz:∀ (i:Nat) (m:Lk),ls[i]?=some m->hasB m.waits no=false:=qeA hn
 have nsame:∀ x,x≠no->qaG (ls.set j { l with waits:=l.waits++[no] }) x=qaG ls x:=fun x hx=>by
  have:=qeC ({ l with waits:=l.waits++[no] }:Lk) x hl
  have c:qaQ (l.waits++[no]) x=qaQ l.waits x:=by
   unfold qaQ
   rw [List.filter_append]
   have:([no].filter fun y=>y==x)=[]:=by simp;exact fun e=>hx e.symm
   rw [this];simp
  simp only [c] at this
  omega
 have none':qaG (ls.set j { l with waits:=l.waits++[no] }) no=1:=by
  have:=qeC ({ l with waits:=l.waits++[no] }:Lk) no hl
  have c:qaQ (l.waits++[no]) no=qaQ l.waits no+1:=by unfold qaQ;simp
  simp only [c] at this
  have:=qk9 hz
  omega
 have back:∀ (i:Nat) (m:Lk) (x:Int),(ls.set j { l with waits:=l.waits++[no] })[i]?=some m->hasB m.waits x=true->x=no∨∃ (k:Nat) (m0:Lk),ls[k]?=some m0 /\ hasB m0.waits x=true:=by
  intro i m x hm hx
  rcases qbm hm with ⟨rfl,rfl⟩ | ⟨_,h⟩
  ·simp only [qgV,Bool.or_eq_true] at hx
   rcases hx with h | h
   ·exact .inr ⟨i,l,hl,h⟩
   ·left;simp [hasB] at h;exact h.symm
  ·exact .inr ⟨i,m,h,hx⟩
 refine ⟨⟨by simpa using R.len,?_,?_,?_,?_,?_⟩,e0⟩
 ·intro i m hm
  rcases qbm hm with ⟨rfl,rfl⟩ | ⟨_,h⟩
  ·exact R.owner i l hl
  ·exact R.owner i m h
 ·intro i m hm e
  rcases qbm hm with ⟨rfl,rfl⟩ | ⟨_,h⟩
  ·exact absurd e h0
  ·exact R.free i m h e
 ·intro i m x hm hx
  rcases back i m x hm hx with rfl | ⟨k,m0,h1,h2⟩
  ·exact hno
  ·exact R.no k m0 x h1 h2
 ·intro i m x hm hx
  by_cases e:x=no
  ·rw [e];exact none'
  ·rcases back i m x hm hx with h | ⟨k,m0,h1,h2⟩
   ·exact absurd h e
   ·rw [nsame x e];exact R.once k m0 x h1 h2
 ·intro i m x hm hx
  rcases back i m x hm hx with rfl | ⟨k,m0,h1,h2⟩
  ·exact ⟨_,e0⟩
  ·obtain ⟨c,hc⟩:=R.ends k m0 x h1 h2
   by_cases h:no∈c
   ·exact ⟨_,qgW hl hn hd' hc h⟩
   ·exact ⟨_,qfo hl hn hc h⟩
end wait
end Go.Proofs.YteagpjlgjfaclaaGreatDoor
namespace Go.Proofs.YteagpjlgjfaclaaGreatDoor
set_option maxRecDepth 100000
open Go.RowKit
section free
variable {ls:List Lk} {j:Nat} {l:Lk} {next:Int}
end free
theorem qlc {ls:List Lk} {no:Int} (h:decide (0 <= qaJ ls no)=false):qay ls no=none:=by
 unfold qaJ at h
 split at h
 ·simp at h
 ·assumption
def qld (ls:List Lk) (i no:Int):Prop :=
 ((askN ls i no=2∨askN ls i no=3) /\ askL ls i no=ls) ∨
 (∃ (j:Nat) (l:Lk),i=(j:Int) /\ ls[j]?=some l /\ l.owner=0 /\ (1 <= no /\ no <= 1000) /\ qay ls no=none /\ askN ls i no=0 /\ askL ls i no=ls.set j ⟨no,[]⟩) ∨
 (∃ (j:Nat) (l:Lk),i=(j:Int) /\ ls[j]?=some l /\ hasB (qbu ls l.owner) no=true /\ askN ls i no=4 /\ askL ls i no=ls) ∨
 ∃ (j:Nat) (l:Lk),i=(j:Int) /\ ls[j]?=some l /\ l.owner≠0 /\ l.owner≠no /\ (1 <= no /\ no <= 1000) /\ qay ls no=none /\ hasB (qbu ls l.owner) no=false /\ askN ls i no=1 /\ askL ls i no=ls.set j { l with waits:=l.waits++[no] }
theorem qcc {ls:List Lk} (R:Right ls) (i no:Int):qld ls i no:=by
 have hb:=qd7.2 R
 have key:∀ n,askN ls i no=n->(n≠0 /\ n≠1->askL ls i no=ls) /\ (n=0->askL ls i no=ls.modify i.toNat (qcl no)) /\ (n=1->askL ls i no=ls.modify i.toNat (qez no)):=by
  rintro n rfl
  refine ⟨fun h => ?_,fun h => ?_,fun h => ?_⟩
  ·unfold askL;rw [hb];simp [h.1,h.2]
  ·unfold askL;rw [hb];simp [h]
  ·unfold askL;rw [hb];simp [h]
 by_cases c:(!inB i 0 ((ls.length:Int) - 1)||(!inB no 1 1000||decide (0 <= qaJ ls no)))=true
 ·have e:askN ls i no=2:=by unfold askN;rw [hb,c];rfl
  exact .inl ⟨.inl e,(key 2 e).1 (by decide)⟩
 ·rw [Bool.not_eq_true,Bool.or_eq_false_iff,Bool.or_eq_false_iff] at c
  obtain ⟨c1,c2,c3⟩:=c
  have c1':=c1
  have c2':=c2
  rw [Bool.not_eq_false'] at c1' c2'
  obtain ⟨h0,h1⟩:=qas.1 c1'
  obtain ⟨j,rfl⟩:∃ j:Nat,i=(j:Int):=⟨i.toNat,by omega⟩
  have hj:j < ls.length:=by omega
  have hl:ls[j]?=some ls[j]:=List.getElem?_eq_getElem hj
  have hno:=qas.1 c2'
  have hn:=qlc c3
  have go:askN ls (j:Int) no=if ls[j].owner==no then 3 else if ls[j].owner==0 then 0 else if hasB (qbu ls ls[j].owner) no then 4 else 1:=by
   unfold askN
   rw [hb,c1,c2,c3,Int.toNat_natCast,qbT hl]
   rfl
  cases c4:(ls[j].owner==no)
  ·cases c5:(ls[j].owner==0)
   ·cases c6:hasB (qbu ls ls[j].owner) no
    ·have e:askN ls (j:Int) no=1:=by rw [go,c4,c5,c6];rfl
     have e2:=(key 1 e).2.2 rfl
     rw [Int.toNat_natCast,qgP hl] at e2
     exact .inr (.inr (.inr ⟨j,ls[j],rfl,hl,by simpa using c5,by simpa using c4,hno,hn,c6,e,e2⟩))
    ·have e:askN ls (j:Int) no=4:=by rw [go,c4,c5,c6];rfl
     exact .inr (.inr (.inl ⟨j,ls[j],rfl,hl,c6,e,(key 4 e).1 (by decide)⟩))
   ·have e:askN ls (j:Int) no=0:=by rw [go,c4,c5];rfl
    have e2:=(key 0 e).2.1 rfl
    have ho:ls[j].owner=0:=by simpa using c5
    rw [Int.toNat_natCast,qgP hl] at e2
    have:qcl no ls[j]=⟨no,[]⟩:=by unfold qcl;rw [R.free j _ hl ho]
    rw [this] at e2
    exact .inr (.inl ⟨j,ls[j],rfl,hl,ho,hno,hn,e,e2⟩)
  ·have e:askN ls (j:Int) no=3:=by rw [go,c4];rfl
   exact .inl ⟨.inr e,(key 3 e).1 (by decide)⟩
theorem qle {ls:List Lk} (R:Right ls) (i no:Int):Right (askL ls i no) /\ (askL ls i no).length=ls.length:=by
 rcases qcc R i no with ⟨_,e⟩ | ⟨j,l,hi,hl,h0,hno,hn,_,e⟩ | ⟨_,_,_,_,_,_,e⟩ | ⟨j,l,hi,hl,h0,h1,hno,hn,hc,_,e⟩
 ·rw [e];exact ⟨R,rfl⟩
 ·rw [e];exact ⟨R.owned hl (R.free j l hl h0) ⟨by omega,hno.2⟩,by simp⟩
 ·rw [e];exact ⟨R,rfl⟩
 ·rw [e]
  obtain ⟨d,hd⟩:=R.chain l.owner
  rw [qla R hd] at hc
  exact ⟨(R.waited hl h0 hno hn hd (qfk.1 hc)).1,by simp⟩
theorem qlf {n:Nat} (h:n <= 5):Right (List.replicate n (⟨0,[]⟩:Lk)):=by
 have key:∀ (j:Nat) (l:Lk),(List.replicate n (⟨0,[]⟩:Lk))[j]?=some l->l=⟨0,[]⟩:=fun j l hl=>List.eq_of_mem_replicate (List.mem_of_getElem? hl)
 refine ⟨by simpa using h,?_,?_,?_,?_,?_⟩
 ·intro j l hl;rw [key j l hl];simp
 ·intro j l hl _;rw [key j l hl]
 ·intro j l x hl hx;rw [key j l hl] at hx;simp [hasB] at hx
 ·intro j l x hl hx;rw [key j l hl] at hx;simp [hasB] at hx
 ·intro j l x hl hx;rw [key j l hl] at hx;simp [hasB] at hx
end Go.Proofs.YteagpjlgjfaclaaGreatDoor
namespace Go.Proofs.YteagpjlgjfaclaaGreatDoor
set_option maxRecDepth 100000
open Go.RowKit
theorem qbK (x:Int) (w:World) :
  Calls Tryz.prog 88 #[.int .i64 x] w fun e w'=>e = .returned (.bool (inB x (-4) 4)) /\ w'=w:=by
 go_enter Tryz.func88,Tryz.ntmps88
 go_wp2_with (go_at_call 27;refine (qag _ _ _ _).mono ?_;rintro e w' ⟨rfl,rfl⟩)
 go_ret
 exact ⟨rfl,rfl⟩
end Go.Proofs.YteagpjlgjfaclaaGreatDoor
namespace Go.Proofs.YteagpjlgjfaclaaGreatDoor
set_option maxRecDepth 100000
open Go.RowKit
theorem qg7 (x:Int) (w:World) :
  Calls Tryz.prog 159 #[.int .i64 x] w fun e w'=>e = .returned (.bool (inB x (-4) 4)) /\ w'=w:=by
 by_cases h1 : -4 <= x
 ·by_cases h2:x <= 4
  ·have Hr:Hid (inB x (-4) 4=true):=qeR h1 h2
   go_enter Tryz.func159,Tryz.ntmps159
   go_wp2
   go_ret
   exact ⟨by rw [Hr.out];rfl,rfl⟩
  ·have Hr:Hid (inB x (-4) 4=false):=qdj (.inr (by omega))
   have hd:decide (x <= 4)=false:=by simpa using h2
   go_enter Tryz.func159,Tryz.ntmps159
   go_wp2
   go_ret
   exact ⟨by rw [Hr.out];rfl,rfl⟩
 ·have Hr:Hid (inB x (-4) 4=false):=qdj (.inl (by omega))
  have hd:decide (-4 <= x)=false:=by simpa using h1
  go_enter Tryz.func159,Tryz.ntmps159
  go_wp2
  go_ret
  exact ⟨by rw [Hr.out];rfl,rfl⟩
end Go.Proofs.YteagpjlgjfaclaaGreatDoor
namespace Go.Proofs.YteagpjlgjfaclaaGreatDoor
set_option maxRecDepth 100000
open Go.RowKit
def putC (w:World) (b k:Nat):List Value->World
 | []=>w
 | v::r=>putC (w.setCell ⟨b,k,none⟩ v) b (k+1) r
def setL (C:Array Value) (k:Nat):List Value->Array Value
 | []=>C
 | v::r=>setL (C.setIfInBounds k v) (k+1) r
theorem qdO:∀ (L:List Value) (C:Array Value) (k:Nat),(setL C k L).size=C.size
 | [],_,_=>rfl
 | _::r,C,k=>by rw [setL,qdO r];simp
theorem qdP:∀ (L:List Value) (C:Array Value) (k i:Nat),k+L.length <= C.size->(setL C k L)[i]?=if k <= i /\ i < k+L.length then L[i - k]? else C[i]?
 | [],C,k,i,_=>by rw [if_neg (by simp)];rfl
 | v::r,C,k,i,h=>by
  simp only [List.length_cons] at h
  rw [setL,qdP r _ _ _ (by simp;omega)]
  by_cases h1:k+1 <= i /\ i < k+1+r.length
  ·rw [if_pos h1,if_pos (by simp only [List.length_cons];omega)]
   obtain ⟨j,hj⟩:∃ j,i - k=j+1:=⟨i - k - 1,by omega⟩
   rw [hj,List.getElem?_cons_succ]
   congr 1
   omega
  ·rw [if_neg h1]
   by_cases e:k=i
   ·subst e
    rw [if_pos (by simp only [List.length_cons];omega),Array.getElem?_setIfInBounds_self_of_lt (by omega)]
    simp
   ·rw [if_neg (by simp only [List.length_cons];omega),Array.getElem?_setIfInBounds_ne e]
theorem qdQ {L:List Value} {C:Array Value} (h:L.length=C.size):setL C 0 L=L.toArray:=by
 apply Array.ext_getElem?
 intro i
 rw [qdP _ _ _ _ (by omega)]
 by_cases hi:i < L.length
 ·rw [if_pos (by omega)];simp
 ·rw [if_neg (by omega),Array.getElem?_eq_none (by omega),Array.getElem?_eq_none (by simp;omega)]
theorem Blk.putL {b:Nat}:∀ (L:List Value) {C:Array Value} {w:World} (k:Nat),Blk w b C->k+L.length <= C.size->Blk (putC w b k L) b (setL C k L)
 | [],_,_,_,h,_=>h
 | v::r,C,w,k,h,hk=>by
  simp only [List.length_cons] at hk
  exact Blk.putL r (k+1) (h.set k (by omega) v) (by simp;omega)
theorem Blk.putC {w:World} {b:Nat} {C:Array Value} (h:Blk w b C) (L:List Value) (hl:L.length=C.size):Blk (putC w b 0 L) b L.toArray:=by
 rw [<- qdQ hl]
 exact Blk.putL L 0 h (by omega)
theorem Blk.farC {b c:Nat} {C:Array Value} (hc:c≠b):∀ (L:List Value) {w:World} (k:Nat),Blk w b C->Blk (Go.Proofs.YteagpjlgjfaclaaGreatDoor.putC w c k L) b C
 | [],_,_,h=>h
 | v::r,_,k,h=>Blk.farC hc r (k+1) (h.far hc v)
theorem Keeps.putC {a:World} {b:Nat} (hp:a.heap.size <= b):∀ (L:List Value) {w:World} (k:Nat),Keeps a w->Keeps a (Go.Proofs.YteagpjlgjfaclaaGreatDoor.putC w b k L)
 | [],_,_,h=>h
 | v::r,_,k,h=>Keeps.putC hp r (k+1) (h.setCell hp v)
end Go.Proofs.YteagpjlgjfaclaaGreatDoor
namespace Go.Proofs.YteagpjlgjfaclaaGreatDoor
set_option maxRecDepth 100000
open Go.RowKit
def Lies {α:Type} (sz:Nat) (c:α->Array Value) (w:World) (a:Option Addr) (xs:List α):Prop :=
 xs=[]∨∃ b off,a=some ⟨b,off,none⟩ /\ b < w.heap.size /\ ∀ i x,xs[i]?=some x->∀ k,k < sz->w.cell? ⟨b,off+i*sz+k,none⟩=(c x)[k]?
theorem Lies.keeps {α:Type} {sz:Nat} {c:α->Array Value} {w w':World} {a:Option Addr} {xs:List α} (h:Lies sz c w a xs) (k:Keeps w w'):Lies sz c w' a xs:=by
 rcases h with h | ⟨b,off,rfl,hb,h⟩
 ·exact .inl h
 ·exact .inr ⟨b,off,rfl,Nat.lt_of_lt_of_le hb k.size,fun i x hx j hj=>(k.cells _ _ hb).trans (h i x hx j hj)⟩
theorem Lies.at {α:Type} {sz:Nat} {c:α->Array Value} {w:World} {a:Option Addr} {xs:List α} (h:Lies sz c w a xs) {i:Nat} {x:α} (hx:xs[i]?=some x) (h0:0 < sz) :
  ∃ b off,a=some ⟨b,off,none⟩ /\ (∀ w',Keeps w w'->w'.cell? ⟨b,off+i*sz,none⟩=(c x)[0]?) /\ ∀ w',Keeps w w'->∀ k,k < sz->w'.cell? ⟨b,off+i*sz+k,none⟩=(c x)[k]?:=by
 rcases h with rfl | ⟨b,off,rfl,hb,h⟩
 ·simp at hx
 ·exact ⟨b,off,rfl,fun w' k=>(k.cells _ _ hb).trans (h i x hx 0 h0),fun w' k j hj=>(k.cells _ _ hb).trans (h i x hx j hj)⟩
theorem qdH {P:Program} (t e:TypeId) (z:Value) (size bytes:Nat) (ht:P.underlying t=some (.slice e)) (hinfo:(P.info? e).map (fun i=>(i.zero,i.size,i.bytes))=some (some z,size,bytes))
  (n:Nat) (hbytes:bytes*n <= 281474976710656) (h63:n <= 9223372036854775807) :
  ∃ C:Array Value,C.size=n*size /\ ∀ w:World,(Instr.makeSlice t (.int .i64 (n:Int)) (.int .i64 (n:Int))).run P w = .ok (.slice (some ⟨w.heap.size,0,none⟩) n n) (w.alloc (.cells C e)):=by
 obtain ⟨i,hi,hzz⟩:=Option.map_eq_some_iff.1 hinfo
 simp only [Prod.mk.injEq] at hzz
 obtain ⟨hz,hs,hb⟩:=hzz
 refine ⟨madeCells z.cells (n*size),size_madeCells _ _,fun w => ?_⟩
 have hb':(i.bytes:Int)*(n:Int) <= 281474976710656:=by
  have h:((i.bytes*n:Nat):Int) <= 281474976710656:=by rw [hb];omega
  rwa [Int.natCast_mul] at h
 have hr:=run_make (P:=P) w t e i z ht hi hz .i64 .i64 n n (by omega) (Int.le_refl _) hb' (by omega)
 simp only [Int.toNat_natCast,hs] at hr
 exact hr
end Go.Proofs.YteagpjlgjfaclaaGreatDoor
namespace Go.Proofs.YteagpjlgjfaclaaGreatDoor
set_option maxRecDepth 100000
open Go.RowKit
structure Has (w:World) (b:Nat) (C:Array Value) (w':World):Prop where
 keeps:Keeps w w'
 box:Blk w' b C
theorem Has.go {w:World} {b:Nat} {C:Array Value} {w1 w2:World} (h:Has w b C w1) (k:Keeps w1 w2):Has w b C w2:=⟨h.keeps.trans k,h.box.keeps k⟩
theorem Has.put {w:World} {b:Nat} {C:Array Value} {w1:World} (h:Has w b C w1) {r:Nat} (hr:w.heap.size <= r) (hb:r≠b) (k:Nat) (L:List Value):Has w b C (putC w1 r k L):=⟨Keeps.putC hr L k h.keeps,Blk.farC hb L k h.box⟩
end Go.Proofs.YteagpjlgjfaclaaGreatDoor
namespace Go.Proofs.YteagpjlgjfaclaaGreatDoor
set_option maxRecDepth 100000
open Go.RowKit
structure KeepsBut (g:Nat) (w w':World):Prop where
 os:w'.os=w.os
 tape:w'.tape=w.tape
 output:w'.output=w.output
 size:w.heap.size <= w'.heap.size
 block:∀ k,k < w.heap.size->k≠g->w'.heap[k]?=w.heap[k]?
theorem KeepsBut.of {g:Nat} {w w':World} (h:Keeps w w'):KeepsBut g w w':=⟨Below.os h,Below.tape h,Below.output h,Below.size h,fun k hk _=>Below.block h k hk⟩
theorem KeepsBut.refl (g:Nat) (w:World):KeepsBut g w w := .of (Keeps.refl w)
theorem KeepsBut.trans {g:Nat} {a b c:World} (h:KeepsBut g a b) (k:KeepsBut g b c):KeepsBut g a c :=
 ⟨k.os.trans h.os,k.tape.trans h.tape,k.output.trans h.output,Nat.le_trans h.size k.size,fun i hi hg=>(k.block i (Nat.lt_of_lt_of_le hi h.size) hg).trans (h.block i hi hg)⟩
theorem KeepsBut.alloc {g:Nat} {a b:World} (h:KeepsBut g a b) (o:Obj):KeepsBut g a (b.alloc o):=h.trans (.of ((Keeps.refl b).alloc o))
theorem KeepsBut.drew {g:Nat} {a b:World} (h:KeepsBut g a b):KeepsBut g a b.drew:=h.trans (.of (Keeps.refl b).drew)
theorem KeepsBut.drewN {g:Nat} {a b:World} (h:KeepsBut g a b) (n:Nat):KeepsBut g a (b.drewN n):=h.trans (.of ((Keeps.refl b).drewN n))
theorem KeepsBut.setCell {g:Nat} {a b:World} (h:KeepsBut g a b) (o:Nat) (v:Value):KeepsBut g a (b.setCell ⟨g,o,none⟩ v) :=
 h.trans ⟨rfl,rfl,rfl,by simp [World.setCell],fun k _ hg=>Below.heap_setCell _ _ _ _ hg⟩
theorem KeepsBut.setNew {g:Nat} {a b:World} (h:KeepsBut g a b) {p:Addr} (hp:a.heap.size <= p.block) (v:Value):KeepsBut g a (b.setCell p v) :=
 ⟨h.os,h.tape,h.output,Nat.le_trans h.size (by simp [World.setCell]),fun k hk hg=>(Below.heap_setCell _ _ _ _ (by omega)).trans (h.block k hk hg)⟩
theorem KeepsBut.cells {g:Nat} {w w':World} (h:KeepsBut g w w'):∀ b o,b < w.heap.size->b≠g->w'.cell? ⟨b,o,none⟩=w.cell? ⟨b,o,none⟩ :=
 fun b _ hb hg=>World.cell?_of_block (w:=w) (h.block b hb hg)
theorem KeepsBut.has {g:Nat} {W:World} {b o:Nat} {v:Value} (hg:b≠g) (h:W.cell? ⟨b,o,none⟩=some v):∀ w',KeepsBut g W w'->w'.cell? ⟨b,o,none⟩=some v :=
 fun _ k=>(k.cells b o (World.block_lt_of_cell? W _ h) hg).trans h
theorem KeepsBut.keeps {g:Nat} {w0 w w':World} (h:KeepsBut g w w') (k:Keeps w0 w) (hg:w0.heap.size <= g):Keeps w0 w' :=
 Below.trans k ⟨h.os,h.tape,h.output,h.size,fun i hi=>h.block i (Nat.lt_of_lt_of_le hi k.size) (by omega)⟩
end Go.Proofs.YteagpjlgjfaclaaGreatDoor
namespace Go.Proofs.YteagpjlgjfaclaaGreatDoor
set_option maxRecDepth 100000
theorem own:ownKnob Tryz.prog.godebug=none:=by kernel_rfl
theorem laidOut:laidOutB Tryz.prog=true:=by kernel_rfl
end Go.Proofs.YteagpjlgjfaclaaGreatDoor
namespace Go.Proofs.YteagpjlgjfaclaaGreatDoor
set_option maxRecDepth 100000
open Go.RowKit
abbrev sh (q p:Int):Value := .agg #[.int .i64 q,.int .i64 p]
def okB (q p:Int):Bool:=inB p 1 40&&inB q 1 p
theorem qbL {q p:Int}:okB q p=true↔(1 <= p /\ p <= 40) /\ 1 <= q /\ q <= p:=by simp [okB,qas]
theorem qdR (q p:Int) (w:World) :
  Calls Tryz.prog 94 #[sh q p] w fun e w'=>e = .returned (.bool (okB q p)) /\ w'=w.alloc (.cells #[.int .i64 q,.int .i64 p] 51):=by
 by_cases h1:1 <= p
 ·by_cases h2:p <= 40
  ·by_cases h3:1 <= q
   ·by_cases h4:q <= p
    ·have Hr:Hid (okB q p=true):=qbL.2 ⟨⟨h1,h2⟩,h3,h4⟩
     go_enter Tryz.func94,Tryz.ntmps94
     go_wp2
     go_ret
     exact ⟨by rw [Hr.out];rfl,rfl⟩
    ·have Hr:Hid (okB q p=false):=by
      show _=_;rw [Bool.eq_false_iff];intro h;have:=qbL.1 h;omega
     have hd:decide (q <= p)=false:=by simpa using h4
     go_enter Tryz.func94,Tryz.ntmps94
     go_wp2
     go_ret
     exact ⟨by rw [Hr.out];rfl,rfl⟩
   ·have Hr:Hid (okB q p=false):=by
     show _=_;rw [Bool.eq_false_iff];intro h;have:=qbL.1 h;omega
    have hd:decide (1 <= q)=false:=by simpa using h3
    go_enter Tryz.func94,Tryz.ntmps94
    go_wp2
    go_ret
    exact ⟨by rw [Hr.out];rfl,rfl⟩
  ·have Hr:Hid (okB q p=false):=by
    show _=_;rw [Bool.eq_false_iff];intro h;have:=qbL.1 h;omega
   have hd:decide (p <= 40)=false:=by simpa using h2
   go_enter Tryz.func94,Tryz.ntmps94
   go_wp2
   go_ret
   exact ⟨by rw [Hr.out];rfl,rfl⟩
 ·have Hr:Hid (okB q p=false):=by
   show _=_;rw [Bool.eq_false_iff];intro h;have:=qbL.1 h;omega
  have hd:decide (1 <= p)=false:=by simpa using h1
  go_enter Tryz.func94,Tryz.ntmps94
  go_wp2
  go_ret
  exact ⟨by rw [Hr.out];rfl,rfl⟩
theorem qb4 (q p:Int) (w:World) :
  Calls Tryz.prog 72 #[sh q p] w fun e w'=>e = .returned (.bool (okB q p)) /\ w'=w.alloc (.cells #[.int .i64 q,.int .i64 p] 51):=by
 cases h1:inB p 1 40
 ·have Hr:Hid (okB q p=false):=by show _=_;simp [okB,h1]
  go_enter Tryz.func72,Tryz.ntmps72
  go_wp2_with (go_at_call 27;refine (qag _ _ _ _).mono ?_;rintro e w' ⟨rfl,rfl⟩)
  go_ret
  exact ⟨by rw [Hr.out];rfl,rfl⟩
 ·have Hr:Hid (okB q p=inB q 1 p):=by show _=_;simp [okB,h1]
  go_enter Tryz.func72,Tryz.ntmps72
  go_wp2_with (go_at_call 27;refine (qag _ _ _ _).mono ?_;rintro e w' ⟨rfl,rfl⟩)
  go_ret
  exact ⟨by rw [Hr.out];rfl,rfl⟩
theorem qfy (q p:Int) (w:World) :
  Calls Tryz.prog 72 #[sh q p] w fun e w'=>e = .returned (.bool (okB q p)) /\ Keeps w w' :=
 (qb4 q p w).mono (by rintro e w' ⟨rfl,rfl⟩;exact ⟨rfl,(Keeps.refl _).alloc _⟩)
end Go.Proofs.YteagpjlgjfaclaaGreatDoor
namespace Go.Proofs.YteagpjlgjfaclaaGreatDoor
set_option maxRecDepth 100000
open Go.RowKit
theorem qeW (n:Int):bits .and .i64 n 255=n % 256:=by
 have h:(BitVec.ofInt 64 255).toNat=2 ^ 8 - 1:=by decide
 have key:(BitVec.ofInt 64 n &&& BitVec.ofInt 64 255).toNat=(n % ((2 ^ 64:Nat):Int)).toNat % 2 ^ 8:=by
  rw [BitVec.toNat_and,BitVec.toNat_ofInt,h,Nat.and_two_pow_sub_one_eq_mod]
 show IntKind.i64.wrap ((BitVec.ofInt 64 n &&& BitVec.ofInt 64 255).toNat:Nat)=n % 256
 rw [key,IntKind.wrap_i64]
 omega
theorem qiC (n:Int):bits .and .i64 n 1073741823=n % 1073741824:=by
 have h:(BitVec.ofInt 64 1073741823).toNat=2 ^ 30 - 1:=by decide
 have key:(BitVec.ofInt 64 n &&& BitVec.ofInt 64 1073741823).toNat=(n % ((2 ^ 64:Nat):Int)).toNat % 2 ^ 30:=by
  rw [BitVec.toNat_and,BitVec.toNat_ofInt,h,Nat.and_two_pow_sub_one_eq_mod]
 show IntKind.i64.wrap ((BitVec.ofInt 64 n &&& BitVec.ofInt 64 1073741823).toNat:Nat)=n % 1073741824
 rw [key,IntKind.wrap_i64]
 omega
def Bytes (g:Nat) (w:World) (a:Option Addr) (n:Nat):Prop :=
 n=0∨∃ b off,a=some ⟨b,off,none⟩ /\ b < g /\ ∀ j,j < n->∃ z:Int,0 <= z /\ z <= 255 /\ w.cell? ⟨b,off+j,none⟩=some (.int .u8 z)
theorem Bytes.but {g:Nat} {w w':World} {a:Option Addr} {n:Nat} (h:Bytes g w a n) (k:KeepsBut g w w'):Bytes g w' a n:=by
 rcases h with h | ⟨b,off,rfl,hg,h⟩
 ·exact .inl h
 ·exact .inr ⟨b,off,rfl,hg,fun j hj=>by obtain ⟨z,h0,h1,hc⟩:=h j hj;exact ⟨z,h0,h1,KeepsBut.has (by omega) hc _ k⟩⟩
def Cur (w:World) (g:Nat):Prop :=
 ∃ (a:Option Addr) (n cap i:Nat) (h:Int),w.cell? ⟨g,0,none⟩=some (.slice a n cap) /\ w.cell? ⟨g,1,none⟩=some (.int .i64 i) /\ w.cell? ⟨g,2,none⟩=some (.int .i64 h) /\
  w.frozen? ⟨g,1,none⟩=false /\ w.frozen? ⟨g,2,none⟩=false /\ i <= n /\ n <= 1048576 /\ Bytes g w a n
theorem qdX (w:World) (n:Nat) (a:Addr):(w.drewN n).cell? a=w.cell? a:=rfl
theorem qfS (w:World) (n:Nat) (a:Addr):(w.drewN n).frozen? a=w.frozen? a:=rfl
theorem Bytes.drewN {g:Nat} {w:World} {a:Option Addr} {n:Nat} (h:Bytes g w a n) (m:Nat):Bytes g (w.drewN m) a n:=h.but ((KeepsBut.refl g w).drewN m)
theorem Cur.drewN {w:World} {g:Nat} (h:Cur w g) (m:Nat):Cur (w.drewN m) g:=by
 obtain ⟨a,n,cap,i,h,c0,c1,c2,f1,f2,hi,hn,hb⟩:=h
 exact ⟨a,n,cap,i,h,c0,c1,c2,f1,f2,hi,hn,hb.drewN m⟩
theorem qfT {w:World} {a:Option Addr} {n cap:Nat} {h:Int} (hn:n <= 1048576) (hb:Bytes w.heap.size w a n) (t:TypeId):Cur (w.alloc (.cells #[.slice a n cap,.int .i64 0,.int .i64 h] t)) w.heap.size :=
 ⟨a,n,cap,0,h,by simp [go_sem],by simp [go_sem],by simp [go_sem],by simp [go_sem],by simp [go_sem],Nat.zero_le _,hn,hb.but ((KeepsBut.refl _ w).alloc _)⟩
theorem qfU {w:World} {g:Nat} {a:Option Addr} {n cap i:Nat} {h:Int} (c0:w.cell? ⟨g,0,none⟩=some (.slice a n cap)) (c1:w.cell? ⟨g,1,none⟩=some (.int .i64 i)) (c2:w.cell? ⟨g,2,none⟩=some (.int .i64 h))
  (f1:w.frozen? ⟨g,1,none⟩=false) (f2:w.frozen? ⟨g,2,none⟩=false) (hi:i <= n) (hn:n <= 1048576) (hb:Bytes g w a n) (h':Int) (m:Nat):Cur ((w.setCell ⟨g,2,none⟩ (.int .i64 h')).drewN m) g :=
 ⟨a,n,cap,i,h',by rw [qdX,qa4 (by omega),c0],by rw [qdX,qa4 (by omega),c1],by rw [qdX,qdk c2],by rw [qfS];simp [f1],by rw [qfS];simp [f2],hi,hn,
  hb.but (((KeepsBut.refl g w).setCell _ _).drewN _)⟩
theorem qiD {w:World} {g:Nat} (hc:Cur w g) {a:Option Addr} {n cap i:Nat} (c0:w.cell? ⟨g,0,none⟩=some (.slice a n cap)) (c1:w.cell? ⟨g,1,none⟩=some (.int .i64 i)) (hi:i < n):Cur (w.setCell ⟨g,1,none⟩ (.int .i64 ((i:Int)+1))) g:=by
 obtain ⟨a',n',cap',i',h,d0,d1,d2,f1,f2,_,hn,hb⟩:=hc
 rw [c0] at d0
 rw [c1] at d1
 simp only [Option.some.injEq,Value.slice.injEq,Value.int.injEq,true_and] at d0 d1
 obtain ⟨rfl,rfl,rfl⟩:=d0
 exact ⟨a,n,cap,i+1,h,by rw [qa4 (by omega),c0],by rw [qdk c1];rfl,by rw [qa4 (by omega),d2],by simp [f1],by simp [f2],by omega,hn,hb.but ((KeepsBut.refl g w).setCell _ _)⟩
set_option maxHeartbeats 1000000 in
theorem qiE (g:Nat) (w:World) (hc:Cur w g) :
  Calls Tryz.prog 98 #[.pointer (some ⟨g,0,none⟩)] w fun e w'=>∃ x:Int,e = .returned (.int .i64 x) /\ 0 <= x /\ x <= 255 /\ Cur w' g /\ KeepsBut g w w':=by
 obtain ⟨a,n,cap,i,h,c0,c1,c2,f1,f2,hi,hn,hb⟩:=hc
 by_cases hlt:i < n
 ·rcases hb with hb | ⟨b,off,rfl,hg,hb⟩
  ·omega
  obtain ⟨z,hz0,hz1,hcz⟩:=hb i hlt
  have hgn:g≠b:=by omega
  have hgn':b≠g:=by omega
  have hlt':(i:Int) < (n:Int):=by omega
  go_enter Tryz.func98,Tryz.ntmps98
  go_wp2
  generalize wrap64 (wrap64 (h*6364136223846793005)+1442695040888963407)=h'
  go_quiet (fail)
  go_wp2
  simp only [qeW]
  generalize bits BinOp.xor IntKind.i64 (h' / 8589934592) (h' / 35184372088832)=X
  have hx0:0 <= X % 256:=by omega
  have hx1:X % 256 <= 255:=by omega
  generalize X % 256=x at *
  go_quiet (fail)
  go_wp2
  go_quiet (fail)
  go_wp2
  simp only [qeW]
  go_ret
  refine ⟨(x+z) % 256,rfl,by omega,by omega,qiD (qfU c0 c1 c2 f1 f2 hi hn (.inr ⟨b,off,rfl,hg,hb⟩) _ _) (a:=some ⟨b,off,none⟩) (n:=n) (cap:=cap) ?_ ?_ hlt,(((KeepsBut.refl g w).setCell _ _).drewN _).setCell _ _⟩
  ·rw [qdX,qa4 (by omega),c0]
  ·rw [qdX,qa4 (by omega),c1]
 ·go_enter Tryz.func98,Tryz.ntmps98
  go_wp2
  generalize wrap64 (wrap64 (h*6364136223846793005)+1442695040888963407)=h'
  go_quiet (fail)
  go_wp2
  simp only [qeW]
  generalize bits BinOp.xor IntKind.i64 (h' / 8589934592) (h' / 35184372088832)=X
  have hx0:0 <= X % 256:=by omega
  have hx1:X % 256 <= 255:=by omega
  generalize X % 256=x at *
  go_quiet (fail)
  go_wp2
  go_ret
  exact ⟨x,rfl,hx0,hx1,(qfU c0 c1 c2 f1 f2 hi hn hb _ _).drewN _,(((KeepsBut.refl g w).setCell _ _).drewN _).drewN _⟩
set_option maxHeartbeats 1000000 in
theorem qam (g:Nat) (n:Int) (w:World) (hc:Cur w g) (h1:1 <= n) (h2:n <= 256) :
  Calls Tryz.prog 49 #[.pointer (some ⟨g,0,none⟩),.int .i64 n] w fun e w'=>∃ x:Int,e = .returned (.int .i64 x) /\ 0 <= x /\ x < n /\ Cur w' g /\ KeepsBut g w w':=by
 go_enter Tryz.func49,Tryz.ntmps49
 go_wp2_with (go_at_call 98;refine (qiE g _ hc).mono ?_;rintro e w1 ⟨x,rfl,hx0,hx1,hc1,k1⟩)
 go_ret
 exact ⟨x % n,rfl,Int.emod_nonneg _ (by omega),Int.emod_lt_of_pos _ (by omega),hc1,k1⟩
theorem qcY (g:Nat) (n:Int) (w:World) (hc:Cur w g) (h1:1 <= n) (h2:n <= 256) :
  Calls Tryz.prog 57 #[.pointer (some ⟨g,0,none⟩),.int .i64 n] w fun e w'=>∃ x:Bool,e = .returned (.bool x) /\ Cur w' g /\ KeepsBut g w w':=by
 go_enter Tryz.func57,Tryz.ntmps57
 go_wp2_with (go_at_call 49;refine (qam g _ _ hc ?_ ?_).mono ?_;omega;omega;rintro e w1 ⟨x,rfl,hx0,hx1,hc1,k1⟩)
 go_ret
 exact ⟨_,rfl,hc1,k1⟩
theorem qiF (p:Int->Prop) (g b off cap:Nat) (zs:List Int) (w:World) (hc:Cur w g) (hg:b≠g) (h1:1 <= zs.length) (h2:zs.length <= 256)
  (hz:∀ j,j < zs.length->w.cell? ⟨b,off+j,none⟩=some (.int .i64 (zs.getD j 0))) (hp:∀ z∈zs,p z) :
  Calls Tryz.prog 50 #[.pointer (some ⟨g,0,none⟩),.slice (some ⟨b,off,none⟩) zs.length cap] w fun e w'=>∃ x:Int,e = .returned (.int .i64 x) /\ p x /\ Cur w' g /\ KeepsBut g w w':=by
 generalize hn:zs.length=n at *
 have Hn:Hid (zs.length=n):=hn
 clear hn
 go_enter Tryz.func50,Tryz.ntmps50
 go_wp2_with fail
 refine (qam g _ _ hc (by omega) (by omega)).mono ?_
 rintro e w1 ⟨x,rfl,hx0,hx1,hc1,k1⟩
 obtain ⟨j,rfl⟩:=Int.eq_ofNat_of_zero_le hx0
 have hj:j < n:=by omega
 have r:=KeepsBut.has hg (hz j hj) w1 k1
 generalize hv:zs.getD j 0=v at r
 have Hv:Hid (zs.getD j 0=v):=hv
 clear hv hz
 go_wp2
 go_ret
 refine ⟨v,rfl,?_,hc1,k1⟩
 rw [<- Hv.out]
 have hj':j < zs.length:=by rw [Hn.out];exact hj
 have e:zs.getD j 0=zs[j]:=by simp [hj']
 rw [e]
 exact hp _ (List.getElem_mem hj')
theorem Cur.lt {w:World} {g:Nat} (h:Cur w g):g < w.heap.size:=by
 obtain ⟨_,_,_,_,_,c0,_⟩:=h
 exact World.block_lt_of_cell? w _ c0
theorem Cur.keeps {w w':World} {g:Nat} (h:Cur w g) (k:Keeps w w'):Cur w' g:=by
 have hl:=h.lt
 obtain ⟨a,n,cap,i,h,c0,c1,c2,f1,f2,hi,hn,hb⟩:=h
 exact ⟨a,n,cap,i,h,Keeps.has c0 _ k,Keeps.has c1 _ k,Keeps.has c2 _ k,(k.frozens g 1 hl).trans f1,(k.frozens g 2 hl).trans f2,hi,hn,hb.but (.of k)⟩
theorem Cur.setNew {w:World} {g:Nat} (h:Cur w g) {b:Nat} (hb:g < b) (o:Nat) (v:Value):Cur (w.setCell ⟨b,o,none⟩ v) g:=by
 obtain ⟨a,n,cap,i,h,c0,c1,c2,f1,f2,hi,hn,hB⟩:=h
 refine ⟨a,n,cap,i,h,by rw [qa4 (by omega),c0],by rw [qa4 (by omega),c1],by rw [qa4 (by omega),c2],by simp [f1],by simp [f2],hi,hn,?_⟩
 rcases hB with hB | ⟨b',off,rfl,hg,hB⟩
 ·exact .inl hB
 ·exact .inr ⟨b',off,rfl,hg,fun j hj=>by obtain ⟨z,h0,h1,hc⟩:=hB j hj;exact ⟨z,h0,h1,by rw [qa4 (by omega),hc]⟩⟩
theorem qbC (p:Int->Prop) (g:Nat) (zs:List Int) (C:Array Value) (t:TypeId) (n cap B:Nat) (w:World) (hB:w.heap.size=B) (hc:Cur w g) (hn:zs.length=n) (h1:1 <= n) (h2:n <= 256) (hC:C=(zs.map (Value.int .i64)).toArray) (hp:∀ z∈zs,p z) :
  Calls Tryz.prog 50 #[.pointer (some ⟨g,0,none⟩),.slice (some ⟨B,0,none⟩) n cap] (w.alloc (.cells C t)) fun e w'=>∃ x:Int,e = .returned (.int .i64 x) /\ p x /\ Cur w' g /\ KeepsBut g w w':=by
 have hl:=hc.lt
 subst hC
 subst hn
 subst hB
 refine (qiF p g w.heap.size 0 cap zs _ (hc.keeps ((Keeps.refl _).alloc _)) (by omega) h1 h2 ?_ hp).mono ?_
 ·intro j hj
  simp [go_sem,hj]
 ·rintro e w' ⟨x,rfl,hx,hc',k⟩
  exact ⟨x,rfl,hx,hc',((KeepsBut.refl g w).alloc _).trans k⟩
set_option maxHeartbeats 1000000 in
theorem qiG (a:Option Addr) (n cap:Nat) (w:World) (hn:n <= 1048576) (hb:∀ g,w.heap.size <= g->Bytes g w a n) :
  Calls Tryz.prog 21 #[.slice a n cap] w fun e w'=>∃ g,e = .returned (.pointer (some ⟨g,0,none⟩)) /\ w.heap.size <= g /\ Cur w' g /\ Keeps w w':=by
 have hb0:=hb w.heap.size (Nat.le_refl _)
 have HB:Hid (Bytes w.heap.size w a n):=hb0
 clear hb
 go_enter Tryz.func21,Tryz.ntmps21
 go_wp2
 go_loop [3,4] (fun s i=>∃ k:Nat,k <= n /\ i = .int .i64 k /\ ∃ h:Int,s = .int .i64 h /\ 0 <= h /\ h <= 1073741823) (fun _ i=>n - (intOf i).toNat)
 case atStart=>exact ⟨0,Nat.zero_le _,rfl,_,rfl,by omega,by omega⟩
 case round =>
  obtain ⟨k,hk,rfl,h,rfl,h0,h1⟩:=hrel
  by_cases hlt:k < n
  ·rcases hb0 with hb0 | ⟨b,off,rfl,hg,hz⟩
   ·omega
   obtain ⟨z,hz0,hz1,hcz⟩:=hz k hlt
   have hlt':(k:Int) < (n:Int):=by omega
   by_cases h4:k < 4000
   ·have h4':(k:Int) < 4000:=by omega
    go_wp2
    simp only [qiC]
    go_round
    case rel=>exact ⟨k+1,by omega,by go_num,_,rfl,by omega,by omega⟩
    case measure=>simp only [intOf];omega
   ·have hd:decide ((k:Int) < 4000)=false:=by simp;omega
    go_wp2
    go_ret
    exact ⟨w.heap.size,rfl,Nat.le_refl _,qfT hn HB.out _,(Keeps.refl _).alloc _⟩
  ·have hd:decide ((k:Int) < (n:Int))=false:=by simp;omega
   go_wp2
   go_ret
   exact ⟨w.heap.size,rfl,Nat.le_refl _,qfT hn HB.out _,(Keeps.refl _).alloc _⟩
theorem qfV (a:Option Addr) (n cap:Nat) (w:World) (_hn:n <= maxLen) :
  Calls Tryz.prog 6 #[.slice a n cap] w fun e w'=>e = .returned (.bool (decide (1048576 < (n:Int)))) /\ w'=w:=by
 unfold maxLen at _hn
 go_enter Tryz.func6,Tryz.ntmps6
 go_wp2
 go_ret
 exact ⟨rfl,rfl⟩
end Go.Proofs.YteagpjlgjfaclaaGreatDoor
namespace Go.Proofs.YteagpjlgjfaclaaGreatDoor
set_option maxRecDepth 100000
open Go.RowKit
def qae {α:Type} (c:α->Array Value) (xs:List α):List Value:=xs.flatMap fun x=>(c x).toList
theorem qeI {α:Type} (c:α->Array Value) (xs ys:List α):qae c (xs++ys)=qae c xs++qae c ys:=by simp [qae]
theorem qa7 {α:Type} {c:α->Array Value} {sz:Nat} (hc:∀ x,(c x).size=sz) (xs:List α):(qae c xs).length=xs.length*sz:=by
 induction xs with
 | nil=>simp [qae]
 | cons x r ih =>
  have e:qae c (x::r)=(c x).toList++qae c r:=rfl
  rw [e,List.length_append,ih,List.length_cons,Nat.add_mul,Nat.one_mul,Array.length_toList,hc,Nat.add_comm]
theorem qc9 {α:Type} {c:α->Array Value} {sz:Nat} (hc:∀ x,(c x).size=sz):∀ (xs:List α) (i:Nat) (x:α),xs[i]?=some x->∀ k,k < sz->(qae c xs)[i*sz+k]?=(c x)[k]?
 | [],i,x,h,_,_=>by simp at h
 | y::r,0,x,h,k,hk=>by
  simp at h
  subst h
  have e:qae c (y::r)=(c y).toList++qae c r:=rfl
  rw [e,Nat.zero_mul,Nat.zero_add,List.getElem?_append_left (by simp [hc,hk])]
  simp
 | y::r,i+1,x,h,k,hk=>by
  have ih:=qc9 hc r i x (by simpa using h) k hk
  have e:qae c (y::r)=(c y).toList++qae c r:=rfl
  rw [e,List.getElem?_append_right (by simp only [Array.length_toList,hc,Nat.add_mul,Nat.one_mul];omega),<- ih]
  congr 1
  simp only [Array.length_toList,hc,Nat.add_mul,Nat.one_mul]
  omega
theorem qec {α:Type} {c:α->Array Value} (h1:∀ x,∀ u∈(c x).toList,u.oneCell'=true) (xs:List α):∀ u∈qae c xs,u.oneCell'=true:=by
 intro u hu
 simp only [qae,List.mem_flatMap] at hu
 obtain ⟨x,_,hx⟩:=hu
 exact h1 x u hx
def Own {α:Type} (e:TypeId) (sz:Nat) (c:α->Array Value) (w:World) (base:Nat) (v:Value) (xs:List α):Prop:=w.ownsRow base e sz v xs.length (qae c xs)
theorem Own.new {α:Type} (e:TypeId) (sz:Nat) (c:α->Array Value) (w:World) {base:Nat} (hb:base <= w.heap.size):Own e sz c (w.alloc (.cells #[] e)) base (.slice (some ⟨w.heap.size,0,none⟩) 0 0) [] :=
 World.ownsRow_made w #[] 0 hb (by simp) (by simp)
theorem Own.keeps {α:Type} {e:TypeId} {sz:Nat} {c:α->Array Value} {w w':World} {base:Nat} {v:Value} {xs:List α} (h:Own e sz c w base v xs) (k:Keeps w w'):Own e sz c w' base v xs:=by
 obtain ⟨h1,h2⟩:=h
 refine ⟨h1,?_⟩
 rcases h2 with h2 | ⟨b,cap,cur,hv,hb,hh,r⟩
 ·exact .inl h2
 ·refine .inr ⟨b,cap,cur,hv,hb,?_,r⟩
  have hlt:b < w.heap.size:=by
   rcases Nat.lt_or_ge b w.heap.size with hlt | hge
   ·exact hlt
   ·rw [Array.getElem?_eq_none hge] at hh;cases hh
  rw [Below.block k b hlt];exact hh
theorem Own.alloc {α:Type} {e:TypeId} {sz:Nat} {c:α->Array Value} {w:World} {base:Nat} {v:Value} {xs:List α} (h:Own e sz c w base v xs) (o:Obj):Own e sz c (w.alloc o) base v xs:=h.keeps ((Keeps.refl w).alloc o)
theorem Own.base {α:Type} {e:TypeId} {sz:Nat} {c:α->Array Value} {w:World} {base base':Nat} {v:Value} {xs:List α} (h:Own e sz c w base v xs) (hb:base' <= base):Own e sz c w base' v xs:=by
 obtain ⟨h1,h2⟩:=h
 refine ⟨h1,?_⟩
 rcases h2 with h2 | ⟨b,cap,cur,hv,hg,r⟩
 ·exact .inl h2
 ·exact .inr ⟨b,cap,cur,hv,Nat.le_trans hb hg,r⟩
theorem Own.slice {α:Type} {e:TypeId} {sz:Nat} {c:α->Array Value} {w:World} {base:Nat} {v:Value} {xs:List α} (h:Own e sz c w base v xs) (hc:∀ x,(c x).size=sz) :
  ∃ a cap,v = .slice a xs.length cap /\ Lies sz c w a xs /\ xs.length <= cap /\ cap <= maxLen:=by
 obtain ⟨_,⟨rfl,hn⟩ | ⟨b,cap,cur,rfl,hb,hh,hl,hm,hs,hx⟩⟩:=h
 ·have:xs=[]:=List.length_eq_zero_iff.1 hn
  subst this
  exact ⟨none,0,rfl,.inl rfl,by simp,by simp⟩
 ·have hlt:b < w.heap.size:=by
   rcases Nat.lt_or_ge b w.heap.size with hlt | hge
   ·exact hlt
   ·rw [Array.getElem?_eq_none hge] at hh;cases hh
  refine ⟨_,cap,rfl,.inr ⟨b,0,rfl,hlt,fun i x hx' k hk => ?_⟩,hl,hm⟩
  have hi:i < xs.length:=by
   rcases Nat.lt_or_ge i xs.length with h | h
   ·exact h
   ·simp [List.getElem?_eq_none h] at hx'
  have hj:i*sz+k < xs.length*sz:=by
   have h1:(i+1)*sz <= xs.length*sz:=Nat.mul_le_mul_right sz hi
   rw [Nat.add_mul,Nat.one_mul] at h1
   omega
  rw [Nat.zero_add,<- qc9 hc xs i x hx' k hk,<- hx]
  simp [World.cell?,hh,hj]
theorem Keeps.grown {w a b:World} {row:Option Nat} (h:Keeps w a) (hg:a.grownBy b row) (hr:∀ k,row=some k->w.heap.size <= k):Keeps w b :=
 ⟨hg.os.trans h.os,hg.tape.trans h.tape,hg.output.trans h.output,Nat.le_trans h.size hg.size,fun k hk=>(hg.block k (Nat.lt_of_lt_of_le hk h.size) (fun e=>by have:=hr k e.symm;omega)).trans (h.block k hk)⟩
variable {P:Program}
theorem qfu {α:Type} {w:World} {ops:Array Oper} {rest:List Oper} {o:Oper} {a:Act} {Q:Exit->Act->World->Prop} (hgd:o.guard=none) (s x:Operand) (t:TypeId)
  (ho:o.op = .call { callee := .builtin .append,args:=#[s,x],argTypes:=#[t,t] })
  (W0:World) (e:TypeId) (z:Value) (sz bytes:Nat) (c:α->Array Value) (ht:P.underlying t=some (.slice e)) (hinfo:(P.info? e).map (fun i=>(i.zero,i.size,i.bytes))=some (some z,sz,bytes))
  (hzs:z.cells.size=sz) (hsz:0 < sz) (hc:∀ x,(c x).size=sz) (h1:∀ x,∀ u∈(c x).toList,u.oneCell'=true)
  (v:Value) (xs:List α) (hs:a.eval s=v) (hown:Own e sz c w W0.heap.size v xs) (hk:Keeps W0 w)
  (b off cp:Nat) (ys:List α) (hx:a.eval x = .slice (some ⟨b,off,none⟩) ys.length cp) (hl:Lies sz c w (some ⟨b,off,none⟩) ys)
  (h63:xs.length+ys.length <= maxLen) (hbytes:(xs.length+ys.length)*bytes <= 140737488355328)
  (h:∀ v' w',Own e sz c w' W0.heap.size v' (xs++ys)->Keeps W0 w'->(∀ k,k < w.heap.size->some k≠v.ownBlock->w'.heap[k]?=w.heap[k]?)->wpList P ops Q rest (a.put o.dst v') w'):wpList P ops Q (o::rest) a w:=by
 obtain ⟨i,hi,hzz⟩:=Option.map_eq_some_iff.1 hinfo
 simp only [Prod.mk.injEq] at hzz
 obtain ⟨hz0,hz1,hz2⟩:=hzz
 refine wpList_append_own _ hgd s x t ho W0.heap.size e i z sz bytes ht hi hz0 hz1 hz2 hzs hsz v xs.length (qae c xs) hs hown ⟨b,off,none⟩ ys.length cp (qae c ys) hx (qa7 hc ys) ?_ (qec h1 ys) h63 hbytes hk.size ?_
 ·intro j u hj
  have hjl:j < ys.length*sz:=by
   have:=qa7 hc ys
   rcases Nat.lt_or_ge j (ys.length*sz) with h | h
   ·exact h
   ·rw [List.getElem?_eq_none (by omega)] at hj;cases hj
  have hq:j / sz < ys.length:=Nat.div_lt_of_lt_mul (by rw [Nat.mul_comm];exact hjl)
  have hm:j % sz < sz:=Nat.mod_lt _ hsz
  have hjj:j / sz*sz+j % sz=j:=by rw [Nat.mul_comm];exact Nat.div_add_mod j sz
  have h2:=qc9 hc ys (j / sz) ys[j / sz] (List.getElem?_eq_getElem hq) (j % sz) hm
  rw [hjj,hj] at h2
  rcases hl with hl | ⟨b',off',e',hb',hl⟩
  ·rw [hl] at hq;simp at hq
  ·simp only [Option.some.injEq,Addr.mk.injEq] at e'
   obtain ⟨rfl,rfl,-⟩:=e'
   have h3:=hl (j / sz) ys[j / sz] (List.getElem?_eq_getElem hq) (j % sz) hm
   have ea:(⟨b,off,none⟩:Addr).add j=⟨b,off+j,none⟩:=by unfold Addr.add;by_cases h:j=0 <;> simp [h]
   rw [ea,<- hjj,<- Nat.add_assoc,h3,<- h2]
 ·intro v' w' ho' hg _
  refine h v' w' ?_ (hk.grown hg fun k hk'=>(hown.lt k hk').1) hg.block
  unfold Own
  rw [qeI,List.length_append]
  exact ho'
theorem qbA {α:Type} {w:World} {ops:Array Oper} {rest:List Oper} {o:Oper} {a:Act} {Q:Exit->Act->World->Prop} (hgd:o.guard=none) (s x:Operand) (t:TypeId)
  (ho:o.op = .call { callee := .builtin .append,args:=#[s,x],argTypes:=#[t,t] })
  (W0:World) (e:TypeId) (z:Value) (sz bytes:Nat) (c:α->Array Value) (ht:P.underlying t=some (.slice e)) (hinfo:(P.info? e).map (fun i=>(i.zero,i.size,i.bytes))=some (some z,sz,bytes))
  (hzs:z.cells.size=sz) (hsz:0 < sz) (hc:∀ x,(c x).size=sz) (h1:∀ x,∀ u∈(c x).toList,u.oneCell'=true)
  (v:Value) (xs:List α) (hs:a.eval s=v) (wo:World) (hown:Own e sz c wo W0.heap.size v xs) (hk:Keeps W0 wo) (ko:Keeps wo w)
  (y:α) (b cp:Nat) (hb:Blk w b (c y)) (hx:a.eval x = .slice (some ⟨b,0,none⟩) 1 cp)
  (h63:xs.length+1 <= maxLen) (hbytes:(xs.length+1)*bytes <= 140737488355328)
  (h:∀ v' w',Own e sz c w' W0.heap.size v' (xs++[y])->Keeps W0 w'->(∀ k,k < wo.heap.size->some k≠v.ownBlock->w'.heap[k]?=wo.heap[k]?)->wpList P ops Q rest (a.put o.dst v') w'):wpList P ops Q (o::rest) a w:=by
 refine qfu hgd s x t ho W0 e z sz bytes c ht hinfo hzs hsz hc h1 v xs hs (hown.keeps ko) (hk.trans ko) b 0 cp [y] hx ?_ h63 hbytes (fun v' w' h2 h3 h4=>h v' w' h2 h3 fun k hk hne => ?_)
 ·refine .inr ⟨_,_,rfl,hb.lt,fun i x hx k hk => ?_⟩
  cases i with
  | zero=>simp at hx;subst hx;simpa using hb.cells k
  | succ i=>simp at hx
 ·rw [h4 k (Nat.lt_of_lt_of_le hk ko.size) hne]
  exact Below.block ko k hk
end Go.Proofs.YteagpjlgjfaclaaGreatDoor
namespace Go.Proofs.YteagpjlgjfaclaaGreatDoor
set_option maxRecDepth 100000
open Go.RowKit
theorem Own.butG {α:Type} {e:TypeId} {sz:Nat} {c:α->Array Value} {g:Nat} {w w':World} {base:Nat} {v:Value} {xs:List α} (h:Own e sz c w base v xs) (k:KeepsBut g w w') (hg:g < base):Own e sz c w' base v xs:=by
 obtain ⟨h1,h2⟩:=h
 refine ⟨h1,?_⟩
 rcases h2 with h2 | ⟨b,cap,cur,hv,hb,hh,r⟩
 ·exact .inl h2
 ·refine .inr ⟨b,cap,cur,hv,hb,?_,r⟩
  have hlt:b < w.heap.size:=by
   rcases Nat.lt_or_ge b w.heap.size with hlt | hge
   ·exact hlt
   ·rw [Array.getElem?_eq_none hge] at hh;cases hh
  rw [k.block b hlt (by omega)];exact hh
theorem Own.some {α:Type} {e:TypeId} {sz:Nat} {c:α->Array Value} {w:World} {base:Nat} {v:Value} {xs:List α} (h:Own e sz c w base v xs) (hc:∀ x,(c x).size=sz) (hx:0 < xs.length) :
  ∃ b cap,v = .slice (Option.some ⟨b,0,none⟩) xs.length cap /\ Lies sz c w (Option.some ⟨b,0,none⟩) xs /\ xs.length <= cap /\ cap <= maxLen:=by
 obtain ⟨a,cap,rfl,l,h1,h2⟩:=h.slice hc
 obtain ⟨_,⟨e,_⟩ | ⟨b,cp,cur,e,_⟩⟩:=h
 ·simp only [Value.slice.injEq] at e;omega
 ·simp only [Value.slice.injEq] at e
  obtain ⟨rfl,-,-⟩:=e
  exact ⟨b,cap,rfl,l,h1,h2⟩
theorem KeepsBut.grown {g:Nat} {w a b:World} {row:Option Nat} (h:KeepsBut g w a) (hg:a.grownBy b row) (hr:∀ k,row=some k->w.heap.size <= k):KeepsBut g w b :=
 ⟨hg.os.trans h.os,hg.tape.trans h.tape,hg.output.trans h.output,Nat.le_trans h.size hg.size,fun k hk hkg=>(hg.block k (Nat.lt_of_lt_of_le hk h.size) (fun e=>by have:=hr k e.symm;omega)).trans (h.block k hk hkg)⟩
theorem Bytes.same {g:Nat} {w w':World} {a:Option Addr} {n:Nat} (h:Bytes g w a n) (k:∀ i,i <= g->w'.heap[i]?=w.heap[i]?):Bytes g w' a n:=by
 rcases h with h | ⟨b,off,rfl,hg,h⟩
 ·exact .inl h
 ·exact .inr ⟨b,off,rfl,hg,fun j hj=>by obtain ⟨z,h0,h1,hc⟩:=h j hj;exact ⟨z,h0,h1,(World.cell?_of_block (w:=w) (k b (by omega))).trans hc⟩⟩
theorem Cur.same {w w':World} {g:Nat} (h:Cur w g) (k:∀ i,i <= g->w'.heap[i]?=w.heap[i]?):Cur w' g:=by
 obtain ⟨a,n,cap,i,h,c0,c1,c2,f1,f2,hi,hn,hb⟩:=h
 have e:=k g (Nat.le_refl _)
 exact ⟨a,n,cap,i,h,(World.cell?_of_block (w:=w) e).trans c0,(World.cell?_of_block (w:=w) e).trans c1,(World.cell?_of_block (w:=w) e).trans c2,(World.frozen?_of_block (w:=w) e).trans f1,(World.frozen?_of_block (w:=w) e).trans f2,hi,hn,hb.same k⟩
theorem Cur.grown {w w':World} {g:Nat} {row:Option Nat} (h:Cur w g) (hg:w.grownBy w' row) (hr:∀ k,row=some k->g < k):Cur w' g:=by
 have hl:=h.lt
 exact h.same fun i hi=>hg.block i (by omega) (fun e=>by have:=hr i e.symm;omega)
variable {P:Program}
theorem qjt {α:Type} {w:World} {ops:Array Oper} {rest:List Oper} {o:Oper} {a:Act} {Q:Exit->Act->World->Prop} (hgd:o.guard=none) (s x:Operand) (t:TypeId)
  (ho:o.op = .call { callee := .builtin .append,args:=#[s,x],argTypes:=#[t,t] })
  (base:Nat) (e:TypeId) (z:Value) (sz bytes:Nat) (c:α->Array Value) (ht:P.underlying t=some (.slice e)) (hinfo:(P.info? e).map (fun i=>(i.zero,i.size,i.bytes))=some (some z,sz,bytes))
  (hzs:z.cells.size=sz) (hsz:0 < sz) (hc:∀ x,(c x).size=sz) (h1:∀ x,∀ u∈(c x).toList,u.oneCell'=true)
  (v:Value) (xs:List α) (hs:a.eval s=v) (hown:Own e sz c w base v xs) (hbase:base <= w.heap.size)
  (y:α) (b cp:Nat) (hb:Blk w b (c y)) (hx:a.eval x = .slice (some ⟨b,0,none⟩) 1 cp)
  (h63:xs.length+1 <= maxLen) (hbytes:(xs.length+1)*bytes <= 140737488355328)
  (h:∀ v' w',Own e sz c w' base v' (xs++[y])->w.grownBy w' v.ownBlock->(∀ k,v.ownBlock=some k->base <= k)->wpList P ops Q rest (a.put o.dst v') w'):wpList P ops Q (o::rest) a w:=by
 obtain ⟨i,hi,hzz⟩:=Option.map_eq_some_iff.1 hinfo
 simp only [Prod.mk.injEq] at hzz
 obtain ⟨hz0,hz1,hz2⟩:=hzz
 have hfl:qae c [y]=(c y).toList:=by simp [qae]
 refine wpList_append_own _ hgd s x t ho base e i z sz bytes ht hi hz0 hz1 hz2 hzs hsz v xs.length (qae c xs) hs hown ⟨b,0,none⟩ 1 cp (qae c [y]) hx (by rw [hfl];simp [hc]) ?_ (qec h1 [y]) h63 hbytes hbase ?_
 ·intro j u hj
  rw [hfl] at hj
  have ea:(⟨b,0,none⟩:Addr).add j=⟨b,j,none⟩:=by unfold Addr.add;by_cases h:j=0 <;> simp [h]
  rw [ea,hb.cells]
  simpa using hj
 ·intro v' w' ho' hg _
  refine h v' w' ?_ hg (fun k hk'=>(hown.lt k hk').1)
  unfold Own
  rw [qeI,List.length_append]
  exact ho'
end Go.Proofs.YteagpjlgjfaclaaGreatDoor
namespace Go.Proofs.YteagpjlgjfaclaaGreatDoor
set_option maxRecDepth 100000
open Go.RowKit
attribute [local go_sem] Keeps.refl Keeps.alloc Keeps.drew Keeps.drewN
theorem qal {α:Type} {xs:List α} {k:Nat} (h:k < xs.length):∃ x,xs[k]?=some x:=⟨xs[k],List.getElem?_eq_getElem h⟩
theorem qaw {α:Type} {xs:List α} {k:Nat} {x:α} (h:xs[k]?=some x):k < xs.length:=by
 rcases Nat.lt_or_ge k xs.length with h' | h'
 ·exact h'
 ·rw [List.getElem?_eq_none h'] at h;cases h
abbrev ic (x:Int):Array Value:=#[.int .i64 x]
theorem qaW (x:Int):(ic x).size=1:=rfl
theorem qcH (x:Int):∀ u∈(ic x).toList,u.oneCell'=true:=by
 intro u hu
 simp at hu
 subst hu
 rfl
def Ns (w:World) (a:Option Addr) (xs:List Int):Prop:=xs=[]∨∃ b off,a=some ⟨b,off,none⟩ /\ b < w.heap.size /\ ∀ i x,xs[i]?=some x->w.cell? ⟨b,off+i,none⟩=some (.int .i64 x)
theorem Ns.keeps {w w':World} {a:Option Addr} {xs:List Int} (h:Ns w a xs) (k:Keeps w w'):Ns w' a xs:=by
 rcases h with h | ⟨b,off,rfl,hb,h⟩
 ·exact .inl h
 ·exact .inr ⟨b,off,rfl,Nat.lt_of_lt_of_le hb k.size,fun i x hx=>(k.cells _ _ hb).trans (h i x hx)⟩
theorem Ns.at {w:World} {a:Option Addr} {xs:List Int} (h:Ns w a xs) {i:Nat} {x:Int} (hx:xs[i]?=some x) :
  ∃ b off,a=some ⟨b,off,none⟩ /\ ∀ w',Keeps w w'->w'.cell? ⟨b,off+i,none⟩=some (.int .i64 x):=by
 rcases h with rfl | ⟨b,off,rfl,hb,h⟩
 ·simp at hx
 ·exact ⟨b,off,rfl,fun w' k=>(k.cells _ _ hb).trans (h i x hx)⟩
theorem Ns.of_lies {w:World} {a:Option Addr} {xs:List Int} (h:Lies 1 ic w a xs):Ns w a xs:=by
 rcases h with h | ⟨b,off,rfl,hb,h⟩
 ·exact .inl h
 ·exact .inr ⟨b,off,rfl,hb,fun i x hx=>by simpa using h i x hx 0 (by omega)⟩
theorem Ns.lies {w:World} {a:Option Addr} {xs:List Int} (h:Ns w a xs):Lies 1 ic w a xs:=by
 rcases h with h | ⟨b,off,rfl,hb,h⟩
 ·exact .inl h
 ·refine .inr ⟨b,off,rfl,hb,fun i x hx k hk => ?_⟩
  obtain rfl:k=0:=by omega
  simpa using h i x hx
abbrev OwnN (w:World) (base:Nat) (v:Value) (xs:List Int):Prop:=Own 3 1 ic w base v xs
theorem OwnN.ns {w:World} {base:Nat} {v:Value} {xs:List Int} (h:OwnN w base v xs):∃ a cap,v = .slice a xs.length cap /\ Ns w a xs /\ xs.length <= cap /\ cap <= maxLen:=by
 obtain ⟨a,cap,e,l,h1,h2⟩:=h.slice qaW
 exact ⟨a,cap,e,.of_lies l,h1,h2⟩
end Go.Proofs.YteagpjlgjfaclaaGreatDoor
namespace Go.Proofs.YteagpjlgjfaclaaGreatDoor
set_option maxRecDepth 100000
open Go.RowKit
theorem Blk.grown {w w':World} {b:Nat} {C:Array Value} {row:Option Nat} (h:Blk w b C) (hg:w.grownBy w' row) (hr:∀ k,row=some k->k≠b):Blk w' b C:=by
 have e:=hg.block b h.lt (fun e=>hr b e.symm rfl)
 exact ⟨Nat.lt_of_lt_of_le h.lt hg.size,fun k=>(World.cell?_of_block (w:=w) e).trans (h.cells k),fun k=>(World.frozen?_of_block (w:=w) e).trans (h.frozens k)⟩
end Go.Proofs.YteagpjlgjfaclaaGreatDoor
namespace Go.Proofs.YteagpjlgjfaclaaGreatDoor
set_option maxRecDepth 100000
open Go.RowKit
attribute [local go_sem] Keeps.refl Keeps.alloc Keeps.drew Keeps.drewN
def qen (x:Int):Int :=
 if x = -4 then 24 else if x = -3 then 16 else if x = -2 then 12 else if x = -1 then 8 else if x=0 then 6 else if x=1 then 4 else if x=2 then 3 else if x=3 then 2 else if x=4 then 1 else 0
def qb7 (x:Int):Int :=
 if x = -4 then 2 else if x = -3 then 3 else if x = -2 then 4 else if x = -1 then 6 else if x=0 then 8 else if x=1 then 12 else if x=2 then 16 else if x=3 then 24 else if x=4 then 48 else 0
theorem nine {x:Int} (h1 : -4 <= x) (h2:x <= 4):x = -4∨x = -3∨x = -2∨x = -1∨x=0∨x=1∨x=2∨x=3∨x=4:=by omega
theorem qmE {x:Int} (h:inB x (-4) 4=false):qen x=0:=by
 have hh:¬ (-4 <= x /\ x <= 4):=fun h'=>by rw [qas.2 h'] at h;cases h
 unfold qen
 repeat rw [if_neg (by omega)]
theorem qmF {x:Int} (h:inB x (-4) 4=false):qb7 x=0:=by
 have hh:¬ (-4 <= x /\ x <= 4):=fun h'=>by rw [qas.2 h'] at h;cases h
 unfold qb7
 repeat rw [if_neg (by omega)]
set_option maxHeartbeats 1000000 in
theorem qmG (x:Int) (w:World) :
  Calls Tryz.prog 225 #[.int .i64 x] w fun e w'=>e = .returned (.int .i64 (qen x)) /\ Keeps w w':=by
 cases h:inB x (-4) 4
 ·have Hr:Hid (qen x=0):=qmE h
  go_enter Tryz.func225,Tryz.ntmps225
  go_wp2_with (go_at_call 88;refine (qbK _ _).mono ?_;rintro e w' ⟨rfl,rfl⟩)
  go_ret
  exact ⟨by rw [Hr.out];rfl,Keeps.refl _⟩
 ·obtain ⟨h1,h2⟩:=qas.1 h
  rcases nine h1 h2 with rfl | rfl | rfl | rfl | rfl | rfl | rfl | rfl | rfl <;>
  ·clear h h1 h2
   go_enter Tryz.func225,Tryz.ntmps225
   go_wp2_with (go_at_call 88;refine (qbK _ _).mono ?_;rintro e w' ⟨rfl,rfl⟩)
   go_ret
   exact ⟨rfl,(Keeps.refl _).alloc _⟩
set_option maxHeartbeats 1000000 in
theorem qhV (x:Int) (w:World) :
  Calls Tryz.prog 217 #[.int .i64 x] w fun e w'=>e = .returned (.int .i64 (qb7 x)) /\ Keeps w w':=by
 cases h:inB x (-4) 4
 ·have Hr:Hid (qb7 x=0):=qmF h
  go_enter Tryz.func217,Tryz.ntmps217
  go_wp2_with (go_at_call 88;refine (qbK _ _).mono ?_;rintro e w' ⟨rfl,rfl⟩)
  go_ret
  exact ⟨by rw [Hr.out];rfl,Keeps.refl _⟩
 ·obtain ⟨h1,h2⟩:=qas.1 h
  rcases nine h1 h2 with rfl | rfl | rfl | rfl | rfl | rfl | rfl | rfl | rfl <;>
  ·clear h h1 h2
   go_enter Tryz.func217,Tryz.ntmps217
   go_wp2_with (first
    | (go_at_call 88;refine (qbK _ _).mono ?_;rintro e w' ⟨rfl,rfl⟩)
    | (go_at_call 225;refine (qmG _ _).mono ?_;rintro e w' ⟨rfl,k⟩))
   go_ret
   exact ⟨congrArg (fun z=>Ending.returned (Value.int .i64 z)) (show wrap64 (Int.tdiv 48 (qen _))=qb7 _ by kernel_rfl),k⟩
end Go.Proofs.YteagpjlgjfaclaaGreatDoor
namespace Go.Proofs.YteagpjlgjfaclaaGreatDoor
set_option maxRecDepth 100000
open Go.ChangeShapes Go.WideShapes Go.ChangeAt Go.RowKit
theorem qlF {H:Type} {enc:TypeId × Value->H} {W:World} {a:Option Addr} {len cap:Nat} {d:DataW H} {p:List MemPlace}
  (h:DataW.Trod enc Tryz.prog W 0 (fun _=>true) true 22 (.slice a len cap) d p):len <= maxLen /\ ∀ g,W.heap.size <= g->Bytes g W a len:=by
 obtain ⟨fuel,hf⟩:=h
 rcases open_ints Tryz.underlying22 Tryz.underlying5 (by kernel_rfl) hf with ⟨hcs,_⟩ | ⟨x,l,c,zs,hcs,_,hl,hm,hz,_,hcell,hwz⟩
 ·simp [Value.cells] at hcs
  obtain ⟨rfl,rfl,rfl⟩:=hcs
  exact ⟨by simp,fun g _ => .inl rfl⟩
 ·simp [Value.cells] at hcs
  obtain ⟨rfl,rfl,rfl⟩:=hcs
  have hz':zs.length=cap:=by simpa using hz
  refine ⟨by omega,fun g hg => ?_⟩
  by_cases h0:len=0
  ·exact .inl h0
  obtain ⟨b,off,spot⟩:=x
  have hs:spot=none:=by
   have:=World.cell?_spot (hcell 0 (by omega))
   simpa [Addr.add] using this
  subst hs
  have hb:b < W.heap.size:=by
   have:=World.block_lt_of_cell? W _ (hcell 0 (by omega))
   simpa [Addr.add] using this
  refine .inr ⟨b,off,rfl,by omega,fun j hj => ?_⟩
  have hj':j < zs.length:=by omega
  have hw:=hwz (zs.getD j 0) (by simp [hj'])
  have hb8:=bounds_u8 hw
  have hc:=hcell j hj'
  have e:(⟨b,off,none⟩:Addr).add j=⟨b,off+j,none⟩:=by
   unfold Addr.add
   by_cases h:j=0 <;> simp [h]
  rw [e] at hc
  exact ⟨_,hb8.1,hb8.2,hc⟩
end Go.Proofs.YteagpjlgjfaclaaGreatDoor
namespace Go.Proofs.YteagpjlgjfaclaaGreatDoor
set_option maxRecDepth 100000
open Go.RowKit
attribute [local go_sem] Keeps.refl Keeps.alloc Keeps.drew Keeps.drewN
structure Lv where
 o:Int
 a:Option Addr
 n:Nat
 cap:Nat
abbrev Lv.row (x:Lv):Value := .slice x.a x.n x.cap
abbrev lvc (x:Lv):Array Value:=#[.int .i64 x.o,.slice x.a x.n x.cap]
theorem qbj (x:Lv):(lvc x).size=2:=rfl
theorem qgX (x:Lv):∀ u∈(lvc x).toList,u.oneCell'=true:=by
 intro u hu
 simp at hu
 rcases hu with rfl | rfl <;> rfl
def Plain (w:World) (a:Option Addr) (n cap:Nat):Prop:=(a=none /\ n=0 /\ cap=0)∨∃ b off,a=some ⟨b,off,none⟩ /\ b < w.heap.size /\ n <= cap
theorem Plain.keeps {w w':World} {a:Option Addr} {n cap:Nat} (h:Plain w a n cap) (k:Keeps w w'):Plain w' a n cap:=by
 rcases h with h | ⟨b,off,h1,h2,h3⟩
 ·exact .inl h
 ·exact .inr ⟨b,off,h1,Nat.lt_of_lt_of_le h2 k.size,h3⟩
structure Fits (p:Bool) (w:World) (x:Lv) (l:Lk):Prop where
 o:x.o=l.owner
 n:x.n=l.waits.length
 le:l.waits.length <= maxLen
 ns:Ns w x.a l.waits
 pl:p=true->Plain w x.a x.n x.cap
def Lks (p:Bool) (w:World) (a:Option Addr) (ls:List Lk):Prop:=∃ vs:List Lv,vs.length=ls.length /\ Lies 2 lvc w a vs /\ ∀ (i:Nat) (x:Lv) (l:Lk),vs[i]?=some x->ls[i]?=some l->Fits p w x l
theorem Lks.keeps {p:Bool} {w w':World} {a:Option Addr} {ls:List Lk} (h:Lks p w a ls) (k:Keeps w w'):Lks p w' a ls:=by
 obtain ⟨vs,h1,h2,h3⟩:=h
 exact ⟨vs,h1,h2.keeps k,fun i x l hx hl=>⟨(h3 i x l hx hl).o,(h3 i x l hx hl).n,(h3 i x l hx hl).le,(h3 i x l hx hl).ns.keeps k,fun e=>((h3 i x l hx hl).pl e).keeps k⟩⟩
theorem Lks.atp {p:Bool} {w:World} {a:Option Addr} {ls:List Lk} (h:Lks p w a ls) {i:Nat} {l:Lk} (hl:ls[i]?=some l) :
  ∃ b off a' cap,a=some ⟨b,off,none⟩ /\ (∀ w',Keeps w w'->w'.cell? ⟨b,off+i*2,none⟩=some (.int .i64 l.owner)) /\ (∀ w',Keeps w w'->w'.cell? ⟨b,off+i*2+1,none⟩=some (.slice a' l.waits.length cap)) /\ l.waits.length <= maxLen /\ Ns w a' l.waits /\ (p=true->Plain w a' l.waits.length cap):=by
 obtain ⟨vs,h1,h2,h3⟩:=h
 obtain ⟨x,hx⟩:=qal (xs:=vs) (k:=i) (by rw [h1];exact qaw hl)
 obtain ⟨b,off,rfl,r0,r1⟩:=h2.at hx (by omega)
 have F:=h3 i x l hx hl
 refine ⟨b,off,x.a,x.cap,rfl,fun w' k => ?_,fun w' k => ?_,F.le,F.ns,fun e=>by have:=F.pl e;rw [F.n] at this;exact this⟩
 ·rw [r0 w' k,<- F.o];rfl
 ·rw [r1 w' k 1 (by omega),<- F.n];rfl
theorem Lks.at {p:Bool} {w:World} {a:Option Addr} {ls:List Lk} (h:Lks p w a ls) {i:Nat} {l:Lk} (hl:ls[i]?=some l) :
  ∃ b off a' cap,a=some ⟨b,off,none⟩ /\ (∀ w',Keeps w w'->w'.cell? ⟨b,off+i*2,none⟩=some (.int .i64 l.owner)) /\ (∀ w',Keeps w w'->w'.cell? ⟨b,off+i*2+1,none⟩=some (.slice a' l.waits.length cap)) /\ l.waits.length <= maxLen /\ Ns w a' l.waits:=by
 obtain ⟨b,off,a',cap,e,r0,r1,h1,h2,-⟩:=h.atp hl
 exact ⟨b,off,a',cap,e,r0,r1,h1,h2⟩
theorem Own.same {α:Type} {e:TypeId} {sz:Nat} {c:α->Array Value} {w w':World} {base:Nat} {v:Value} {xs:List α} (h:Own e sz c w base v xs) (k:∀ b,v.ownBlock=Option.some b->w'.heap[b]?=w.heap[b]?):Own e sz c w' base v xs:=by
 obtain ⟨h1,h2⟩:=h
 refine ⟨h1,?_⟩
 rcases h2 with h2 | ⟨b,cap,cur,rfl,hb,hh,r⟩
 ·exact .inl h2
 ·refine .inr ⟨b,cap,cur,rfl,hb,?_,r⟩
  rw [k b rfl];exact hh
theorem Own.ltb {α:Type} {e:TypeId} {sz:Nat} {c:α->Array Value} {w:World} {base:Nat} {v:Value} {xs:List α} (h:Own e sz c w base v xs):∀ b,v.ownBlock=Option.some b->base <= b /\ b < w.heap.size:=World.ownsRow.lt h
structure Mine (w:World) (lo hi:Nat) (v:Value) (vs:List Lv) (ls:List Lk):Prop where
 len:vs.length=ls.length
 own:Own 37 2 lvc w lo v vs
 out:∀ b,v.ownBlock=some b->b < hi
 rows:∀ (i:Nat) (x:Lv) (l:Lk),vs[i]?=some x->ls[i]?=some l->x.o=l.owner /\ OwnN w lo x.row l.waits
 inn:∀ (i:Nat) (x:Lv) (b:Nat),vs[i]?=some x->x.row.ownBlock=some b->b < hi /\ v.ownBlock≠some b
 apart:∀ (i j:Nat) (x y:Lv) (b:Nat),vs[i]?=some x->vs[j]?=some y->x.row.ownBlock=some b->y.row.ownBlock=some b->i=j
theorem Mine.same {w w':World} {lo hi:Nat} {v:Value} {vs:List Lv} {ls:List Lk} (h:Mine w lo hi v vs ls) (k:∀ b,lo <= b->b < hi->b < w.heap.size->w'.heap[b]?=w.heap[b]?):Mine w' lo hi v vs ls:=by
 refine ⟨h.len,h.own.same fun b hb=>k b (h.own.ltb b hb).1 (h.out b hb) (h.own.ltb b hb).2,h.out,fun i x l hx hl => ?_,h.inn,h.apart⟩
 obtain ⟨h1,h2⟩:=h.rows i x l hx hl
 exact ⟨h1,h2.same fun b hb=>k b (h2.ltb b hb).1 (h.inn i x b hx hb).1 (h2.ltb b hb).2⟩
theorem Mine.keeps {w w':World} {lo hi:Nat} {v:Value} {vs:List Lv} {ls:List Lk} (h:Mine w lo hi v vs ls) (k:Keeps w w'):Mine w' lo hi v vs ls:=h.same fun b _ _ hb=>Below.block k b hb
theorem Mine.widen {w:World} {lo lo' hi hi':Nat} {v:Value} {vs:List Lv} {ls:List Lk} (h:Mine w lo hi v vs ls) (h1:lo' <= lo) (h2:hi <= hi'):Mine w lo' hi' v vs ls :=
 ⟨h.len,h.own.base h1,fun b hb=>Nat.lt_of_lt_of_le (h.out b hb) h2,fun i x l hx hl=>⟨(h.rows i x l hx hl).1,(h.rows i x l hx hl).2.base h1⟩,fun i x b hx hb=>⟨Nat.lt_of_lt_of_le (h.inn i x b hx hb).1 h2,(h.inn i x b hx hb).2⟩,h.apart⟩
theorem Mine.lks {w:World} {lo hi:Nat} {v:Value} {vs:List Lv} {ls:List Lk} (h:Mine w lo hi v vs ls):∃ a cap,v = .slice a ls.length cap /\ Lks true w a ls /\ ls.length <= maxLen:=by
 obtain ⟨a,cap,rfl,l,h1,h2⟩:=h.own.slice qbj
 have hle:=h.len
 refine ⟨a,cap,by rw [h.len],⟨vs,h.len,l,fun i x l hx hl => ?_⟩,by omega⟩
 obtain ⟨r1,r2⟩:=h.rows i x l hx hl
 have r2':=r2
 obtain ⟨a',cap',e,ns,l1,l2⟩:=r2.ns
 simp only [Value.slice.injEq] at e
 obtain ⟨rfl,e2,rfl⟩:=e
 refine ⟨r1,e2,by omega,ns,fun _ => ?_⟩
 obtain ⟨_,⟨e3,hn⟩ | ⟨b',cp,cur,e3,_⟩⟩:=r2
 ·simp only [Value.slice.injEq] at e3
  exact .inl e3
 ·have h3:=(Own.ltb r2' b' (by rw [e3];rfl)).2
  simp only [Value.slice.injEq] at e3
  exact .inr ⟨b',0,e3.1,h3,by omega⟩
theorem Mine.args {w:World} {lo hi:Nat} {v:Value} {vs:List Lv} {ls:List Lk} (h:Mine w lo hi v vs ls):∃ a cap,v = .slice a ls.length cap /\ Lks true w a ls /\ Plain w a ls.length cap /\ ls.length <= maxLen:=by
 obtain ⟨a,cap,e,l,hm⟩:=h.lks
 refine ⟨a,cap,e,l,?_,hm⟩
 have O:=h.own
 obtain ⟨_,⟨e3,hn⟩ | ⟨b',cp,cur,e3,_,_,hc,_⟩⟩:=O
 ·rw [e] at e3
  simp only [Value.slice.injEq] at e3
  exact .inl e3
 ·have h3:=(Own.ltb h.own b' (by rw [e3];rfl)).2
  rw [e] at e3
  simp only [Value.slice.injEq] at e3
  exact .inr ⟨b',0,e3.1,h3,by have:=h.len;omega⟩
theorem qgY {α:Type} {c:α->Array Value} {sz:Nat} (hc:∀ x,(c x).size=sz):∀ (xs:List α) (i:Nat) (x y:α) (j:Nat) (u:Value),xs[i]?=some x->j < sz->(c y).toList=(c x).toList.set j u->qae c (xs.set i y)=(qae c xs).set (i*sz+j) u
 | [],i,x,y,j,u,h,_,_=>by simp at h
 | z::r,0,x,y,j,u,h,hj,hy=>by
  simp at h
  subst h
  show (c y).toList++qae c r=((c z).toList++qae c r).set (0*sz+j) u
  rw [Nat.zero_mul,Nat.zero_add,List.set_append_left _ _ (by simp [hc,hj]),hy]
 | z::r,i+1,x,y,j,u,h,hj,hy=>by
  have ih:=qgY hc r i x y j u (by simpa using h) hj hy
  show (c z).toList++qae c (r.set i y)=((c z).toList++qae c r).set ((i+1)*sz+j) u
  rw [ih,List.set_append_right _ _ (by simp only [Array.length_toList,hc,Nat.add_mul,Nat.one_mul];omega)]
  congr 2
  simp only [Array.length_toList,hc,Nat.add_mul,Nat.one_mul]
  omega
theorem Own.setAt {α:Type} {e:TypeId} {sz:Nat} {c:α->Array Value} {w:World} {base b n cap:Nat} {xs:List α} (h:Own e sz c w base (.slice (Option.some ⟨b,0,none⟩) n cap) xs) (hc:∀ x,(c x).size=sz) {i j:Nat} {x y:α} {u:Value} (hx:xs[i]?=Option.some x) (hj:j < sz) (hy:(c y).toList=(c x).toList.set j u) :
  Own e sz c (w.setCell ⟨b,i*sz+j,none⟩ u) base (.slice (Option.some ⟨b,0,none⟩) n cap) (xs.set i y):=by
 have hn:n=xs.length:=by
  obtain ⟨_,⟨e,_⟩ | ⟨b',cp,cur,e,_⟩⟩:=h
  ·simp at e
  ·simp only [Value.slice.injEq] at e;exact e.2.1
 subst hn
 have:=(World.ownsRow.stored h (i*sz+j) u).1
 unfold Own
 rw [qgY hc xs i x y j u hx hj hy,List.length_set]
 exact this
theorem Own.blk {α:Type} {e:TypeId} {sz:Nat} {c:α->Array Value} {w:World} {base:Nat} {v:Value} {xs:List α} (h:Own e sz c w base v xs) (hx:0 < xs.length):∃ b cap,v = .slice (Option.some ⟨b,0,none⟩) xs.length cap:=by
 obtain ⟨_,⟨e,hn⟩ | ⟨b',cp,cur,e,_⟩⟩:=h
 ·omega
 ·exact ⟨b',cp,e⟩
theorem Own.cellAt {α:Type} {e:TypeId} {sz:Nat} {c:α->Array Value} {w:World} {base b cap:Nat} {xs:List α} (h:Own e sz c w base (.slice (Option.some ⟨b,0,none⟩) xs.length cap) xs) (hc:∀ x,(c x).size=sz) {i k:Nat} {x:α} (hx:xs[i]?=Option.some x) (hk:k < sz):w.cell? ⟨b,i*sz+k,none⟩=(c x)[k]?:=by
 have hi:=qaw hx
 have:i*sz+k < xs.length*sz:=by
  have h1:(i+1)*sz <= xs.length*sz:=Nat.mul_le_mul_right sz hi
  rw [Nat.add_mul,Nat.one_mul] at h1
  omega
 rw [World.ownsRow.cellAt h _ this,qc9 hc xs i x hx k hk]
theorem Own.frozenAt {α:Type} {e:TypeId} {sz:Nat} {c:α->Array Value} {w:World} {base b cap:Nat} {xs:List α} (h:Own e sz c w base (.slice (Option.some ⟨b,0,none⟩) xs.length cap) xs) (k:Nat):w.frozen? ⟨b,k,none⟩=false:=World.ownsRow.frozenAt h k
theorem qa2 {w:World} {b o:Nat} {u:Value} {k:Nat} (h:k≠b):(w.setCell ⟨b,o,none⟩ u).heap[k]?=w.heap[k]?:=Below.heap_setCell _ _ _ _ h
theorem qct {α:Type} {xs:List α} {k i:Nat} {x y:α} (h:(xs.set k y)[i]?=some x):(i=k /\ x=y)∨(i≠k /\ xs[i]?=some x):=by
 by_cases e:k=i
 ·subst e
  have hl:k < xs.length:=by have:=qaw h;simpa using this
  rw [List.getElem?_set_self hl] at h
  cases h;exact .inl ⟨rfl,rfl⟩
 ·rw [List.getElem?_set_ne e] at h
  exact .inr ⟨Ne.symm e,h⟩
theorem Mine.setOwner {w:World} {lo hi b cap:Nat} {vs:List Lv} {ls:List Lk} (h:Mine w lo hi (.slice (some ⟨b,0,none⟩) vs.length cap) vs ls) {k:Nat} {x:Lv} {l:Lk} (hx:vs[k]?=some x) (hl:ls[k]?=some l) (c:Int) :
  Mine (w.setCell ⟨b,k*2,none⟩ (.int .i64 c)) lo hi (.slice (some ⟨b,0,none⟩) (vs.set k { x with o:=c }).length cap) (vs.set k { x with o:=c }) (ls.set k { l with owner:=c }):=by
 refine ⟨by simp [h.len],?_,h.out,?_,?_,?_⟩
 ·have:=h.own.setAt qbj (i:=k) (j:=0) (x:=x) (y:={ x with o:=c }) (u := .int .i64 c) hx (by omega) rfl
  simpa using this
 ·intro i y m hy hm
  have key:∀ u:Lv,(∀ b',u.row.ownBlock=some b'->b'≠b)->∀ ws,OwnN w lo u.row ws->OwnN (w.setCell ⟨b,k*2,none⟩ (.int .i64 c)) lo u.row ws:=fun u hu ws ho=>ho.same fun b' hb'=>qa2 (hu b' hb')
  have hne:∀ (j:Nat) (u:Lv),vs[j]?=some u->∀ b',u.row.ownBlock=some b'->b'≠b:=fun j u hu b' hb' e=>(h.inn j u b' hu hb').2 (by rw [e];rfl)
  rcases qct hy with ⟨rfl,rfl⟩ | ⟨hik,hy⟩ <;> rcases qct hm with ⟨h1,rfl⟩ | ⟨h1,hm⟩
  ·exact ⟨rfl,key x (hne i x hx) _ (h.rows i x l hx hl).2⟩
  ·exact absurd rfl h1
  ·exact absurd h1 hik
  ·exact ⟨(h.rows i y m hy hm).1,key y (hne i y hy) _ (h.rows i y m hy hm).2⟩
 ·intro i y b' hy hb'
  rcases qct hy with ⟨rfl,rfl⟩ | ⟨_,hy⟩
  ·exact h.inn i x b' hx hb'
  ·exact h.inn i y b' hy hb'
 ·intro i j y z b' hy hz e1 e2
  rcases qct hy with ⟨rfl,rfl⟩ | ⟨_,hy2⟩ <;> rcases qct hz with ⟨rfl,rfl⟩ | ⟨_,hz2⟩
  ·rfl
  ·exact h.apart i j x z b' hx hz2 e1 e2
  ·exact h.apart i j y x b' hy2 hx e1 e2
  ·exact h.apart i j y z b' hy2 hz2 e1 e2
end Go.Proofs.YteagpjlgjfaclaaGreatDoor
namespace Go.Proofs.YteagpjlgjfaclaaGreatDoor
set_option maxRecDepth 100000
open Go.RowKit
variable {p p':Bool}
attribute [local go_sem] Keeps.refl Keeps.alloc Keeps.drew Keeps.drewN
def sumW:List Lk->Nat
 | []=>0
 | l::r=>l.waits.length+sumW r
theorem qgZ (xs ys:List Lk):sumW (xs++ys)=sumW xs+sumW ys:=by
 induction xs with
 | nil=>simp [sumW]
 | cons x r ih=>simp only [List.cons_append,sumW,ih];omega
theorem qd9 {ls:List Lk} {k:Nat} {l:Lk} (h:ls[k]?=some l):sumW (ls.take (k+1))=sumW (ls.take k)+l.waits.length:=by
 rw [List.take_add_one,h,qgZ]
 simp [sumW]
theorem qfp (ls:List Lk) (k:Nat):sumW (ls.take k) <= sumW ls:=by
 have:=qgZ (ls.take k) (ls.drop k)
 rw [List.take_append_drop] at this
 omega
theorem qcM {ls:List Lk} {k:Nat} {l:Lk} (h:ls[k]?=some l):l.waits.length <= sumW ls:=by
 have:=qd9 h
 have:=qfp ls (k+1)
 omega
def qaj (ls:List Lk):Nat:=ls.length+sumW ls
end Go.Proofs.YteagpjlgjfaclaaGreatDoor
namespace Go.Proofs.YteagpjlgjfaclaaGreatDoor
set_option maxRecDepth 100000
open Go.RowKit
variable {p:Bool}
attribute [local go_sem] Keeps.refl Keeps.alloc Keeps.drew Keeps.drewN
theorem qlk {xs:List Int} {x:Int} {k:Nat} {y:Int} (hy:xs[k]?=some y) (h:(y==x)=true):hasB xs x=true:=by
 rw [qcK]
 have:=List.mem_of_getElem? hy
 simp at h
 rw [<- h];exact this
theorem qll {xs:List Int} {x:Int} (h:∀ (j:Nat) (y:Int),xs[j]?=some y->(y==x)=false):hasB xs x=false:=by
 rw [qfk]
 intro hm
 obtain ⟨j,hj,e⟩:=List.mem_iff_getElem.1 hm
 have:=h j _ (List.getElem?_eq_getElem hj)
 simp [e] at this
set_option maxHeartbeats 1000000 in
theorem qdM (a:Option Addr) (cap:Nat) (xs:List Int) (x:Int) (w:World) (hl:xs.length <= maxLen) (hs:Ns w a xs) :
  Calls Tryz.prog 147 #[.slice a xs.length cap,.int .i64 x] w fun e w'=>e = .returned (.bool (hasB xs x)) /\ Keeps w w':=by
 unfold maxLen at hl
 generalize hn:xs.length=n at hl
 have Hn:Hid (xs.length=n):=hn
 clear hn
 go_enter Tryz.func147,Tryz.ntmps147
 go_wp2
 go_loopw [5] (fun i wr=>∃ k:Nat,k <= n /\ i = .int .i64 k /\ Keeps w wr /\ Hid (∀ (j:Nat) (y:Int),j < k->xs[j]?=some y->(y==x)=false)) (fun i _=>n - (intOf i).toNat)
 case atStart=>exact ⟨0,Nat.zero_le _,rfl,Keeps.refl _,fun j y hj=>by omega⟩
 case round =>
  obtain ⟨k,hk,rfl,hK,H⟩:=hrel
  by_cases hlt:k < n
  ·obtain ⟨y,hy⟩:=qal (xs:=xs) (k:=k) (by rw [Hn.out];exact hlt)
   obtain ⟨b,off,rfl,r0⟩:=hs.at hy
   have hlt':(k:Int) < (n:Int):=by omega
   have Hy:Hid (xs[k]?=some y):=hy
   clear hs hy
   cases hq:(y==x)
   ·go_wp2
    exact ⟨⟨k+1,by omega,by go_num,hK,fun j s hj hs=>by
     by_cases e:j=k
     ·subst e;rw [Hy.out] at hs;cases hs;exact hq
     ·exact H.out j s (by omega) hs⟩,by simp only [intOf];omega⟩
   ·have Hr:Hid (hasB xs x=true):=qlk Hy.out hq
    go_wp2
    go_ret
    exact ⟨by rw [Hr.out];rfl,hK⟩
  ·have Hr:Hid (hasB xs x=false):=qll fun j y hy=>H.out j y (by have:=qaw hy;rw [Hn.out] at this;omega) hy
   go_wp2
   go_ret
   exact ⟨by rw [Hr.out];rfl,hK⟩
set_option maxHeartbeats 1000000 in
theorem qeF (a:Option Addr) (cap:Nat) (ls:List Lk) (no:Int) (w:World) (hl:ls.length <= maxLen) (hs:Lks p w a ls) :
  Calls Tryz.prog 84 #[.slice a ls.length cap,.int .i64 no] w fun e w'=>e = .returned (.int .i64 (qaJ ls no)) /\ Keeps w w':=by
 unfold maxLen at hl
 generalize hn:ls.length=n at hl
 have Hn:Hid (ls.length=n):=hn
 clear hn
 go_enter Tryz.func84,Tryz.ntmps84
 go_wp2
 go_loopw [5] (fun i wr=>∃ k:Nat,k <= n /\ i = .int .i64 k /\ Keeps w wr /\ Hid (∀ (j:Nat) (m:Lk),j < k->ls[j]?=some m->hasB m.waits no=false)) (fun i _=>n - (intOf i).toNat)
 case atStart=>exact ⟨0,Nat.zero_le _,rfl,Keeps.refl _,fun j y hj=>by omega⟩
 case round =>
  obtain ⟨k,hk,rfl,hK,H⟩:=hrel
  by_cases hlt:k < n
  ·obtain ⟨l,hl1⟩:=qal (xs:=ls) (k:=k) (by rw [Hn.out];exact hlt)
   obtain ⟨b,off,a',cap',rfl,r0,r1,hle,hns⟩:=hs.at hl1
   have hlt':(k:Int) < (n:Int):=by omega
   have Hl:Hid (ls[k]?=some l):=hl1
   have Hle:Hid (l.waits.length <= maxLen):=hle
   have N1:Hid (Ns w a' l.waits):=hns
   clear hs hl1 hle hns
   cases hq:hasB l.waits no
   ·go_wp2_with (go_at_call 147;refine (qdM _ _ l.waits no _ Hle.out (N1.out.keeps hK)).mono ?_;rintro e w1 ⟨rfl,k1⟩;rw [hq])
    exact ⟨⟨k+1,by omega,by go_num,hK.trans k1,fun j s hj hs=>by
     by_cases e:j=k
     ·subst e;rw [Hl.out] at hs;cases hs;exact hq
     ·exact H.out j s (by omega) hs⟩,by simp only [intOf];omega⟩
   ·have Hr:Hid (qaJ ls no=k):=by
     show _=_
     unfold qaJ
     rw [qfl Hl.out hq H.out]
    go_wp2_with (go_at_call 147;refine (qdM _ _ l.waits no _ Hle.out (N1.out.keeps hK)).mono ?_;rintro e w1 ⟨rfl,k1⟩;rw [hq])
    go_ret
    exact ⟨by rw [Hr.out];rfl,hK.trans k1⟩
  ·have Hr:Hid (qaJ ls no = -1):=by
    show _=_
    unfold qaJ
    rw [qfm fun j m hm=>H.out j m (by have:=qaw hm;rw [Hn.out] at this;omega) hm]
   go_wp2
   go_ret
   exact ⟨by rw [Hr.out];rfl,hK⟩
theorem qfs (xs ys:List Int) (no:Int):qaQ (xs++ys) no=qaQ xs no+qaQ ys no:=by simp [qaQ]
theorem qg1 (xs:List Int) (no:Int):qaQ xs no <= xs.length:=List.length_filter_le _ _
theorem qg2 {xs:List Int} {k:Nat} {x no:Int} (h:xs[k]?=some x):qaQ (xs.take (k+1)) no=qaQ (xs.take k) no+(if x==no then 1 else 0):=by
 rw [List.take_add_one,h,qfs]
 congr 1
 cases hx:(x==no) <;> simp [qaQ,hx]
theorem qlm (xs ys:List Lk) (no:Int):qaG (xs++ys) no=qaG xs no+qaG ys no:=by
 induction xs with
 | nil=>simp [qaG]
 | cons x r ih=>simp only [List.cons_append,qaG,ih];omega
theorem qln {ls:List Lk} {k:Nat} {l:Lk} (h:ls[k]?=some l) (no:Int):qaG (ls.take (k+1)) no=qaG (ls.take k) no+qaQ l.waits no:=by
 rw [List.take_add_one,h,qlm]
 simp [qaG]
theorem qlo (ls:List Lk) (no:Int):qaG ls no <= sumW ls:=by
 induction ls with
 | nil=>simp [qaG]
 | cons l r ih=>have:=qg1 l.waits no;simp only [qaG,sumW];omega
set_option maxHeartbeats 2000000 in
theorem qg3 (a:Option Addr) (cap:Nat) (ls:List Lk) (no:Int) (w:World) (hl:qaj ls <= 2097152) (hs:Lks p w a ls) :
  Calls Tryz.prog 111 #[.slice a ls.length cap,.int .i64 no] w fun e w'=>e = .returned (.int .i64 (qaG ls no)) /\ Keeps w w':=by
 have HL:Hid (qaj ls <= 2097152):=hl
 have hl0:ls.length <= 2097152:=by unfold qaj at hl;omega
 clear hl
 generalize hn:ls.length=n at hl0
 have Hn:Hid (ls.length=n):=hn
 clear hn
 go_enter Tryz.func111,Tryz.ntmps111
 go_wp2
 go_loopw [5,6] (fun c i wr=>∃ (k q:Nat),k <= n /\ i = .int .i64 k /\ c = .int .i64 q /\ Hid (qaG (ls.take k) no=q) /\ q <= 2097152 /\ Keeps w wr) (fun _ i _=>n - (intOf i).toNat)
 case atStart=>exact ⟨0,0,Nat.zero_le _,rfl,rfl,by show _=_;simp [qaG],by omega,Keeps.refl _⟩
 case round =>
  obtain ⟨k,q,hk,rfl,rfl,Hq,hq1,hK⟩:=hrel
  by_cases hlt:k < n
  ·obtain ⟨l,hl1⟩:=qal (xs:=ls) (k:=k) (by rw [Hn.out];exact hlt)
   obtain ⟨b,off,a',cap',rfl,r0,r1,hle,hns⟩:=hs.at hl1
   have hlt':(k:Int) < (n:Int):=by omega
   have Hl:Hid (ls[k]?=some l):=hl1
   have Hle:Hid (l.waits.length <= maxLen):=hle
   have hw1:Hid (l.waits.length <= 2097152):=by show _ <= _;have:=qcM hl1;have:=HL.out;unfold qaj at this;omega
   have hw2:Hid (q+l.waits.length <= 2097152):=by
    show _ <= _
    have h1:=qd9 hl1
    have h2:=qfp ls (k+1)
    have h3:=qlo (ls.take k) no
    have h4:=HL.out
    rw [Hq.out] at h3
    unfold qaj at h4
    omega
   clear hl1 hle
   obtain ⟨m,Hm⟩:∃ m:Nat,Hid (l.waits.length=m):=⟨_,rfl⟩
   have hm1:m <= 2097152:=by rw [<- Hm.out];exact hw1.out
   have hm2:q+m <= 2097152:=by rw [<- Hm.out];exact hw2.out
   rw [Hm.out] at r1
   go_wp2
   go_loopw [5,7] (fun c i wr=>∃ (j p:Nat),j <= m /\ i = .int .i64 j /\ c = .int .i64 p /\ Hid (q+qaQ (l.waits.take j) no=p) /\ p <= 2097152 /\ Keeps w wr) (fun _ i _=>m - (intOf i).toNat)
   case atStart=>exact ⟨0,q,Nat.zero_le _,rfl,rfl,by show _=_;simp [qaQ],hq1,hK⟩
   case round =>
    obtain ⟨j,p,hj,rfl,rfl,Hp,hp1,hK⟩:=hrel
    by_cases hlt2:j < m
    ·obtain ⟨x,hx⟩:=qal (xs:=l.waits) (k:=j) (by rw [Hm.out];exact hlt2)
     obtain ⟨b2,off2,rfl,x0⟩:=hns.at hx
     have hlt3:(j:Int) < (m:Int):=by omega
     have Hx:Hid (l.waits[j]?=some x):=hx
     have hp2:p < 2097152:=by
      have h1:=qg1 (l.waits.take j) no
      have h2:(l.waits.take j).length <= j:=by simp;omega
      have h3:=Hp.out
      omega
     clear hns hx
     cases hq:(x==no)
     ·go_wp2
      refine ⟨⟨j+1,p,by omega,by go_num,rfl,?_,hp1,hK⟩,by simp only [intOf];omega⟩
      show _=_
      rw [qg2 Hx.out,hq,<- Hp.out]
      simp
     ·go_wp2
      refine ⟨⟨j+1,p+1,by omega,by go_num,by go_num,?_,by omega,hK⟩,by simp only [intOf];omega⟩
      show _=_
      rw [qg2 Hx.out,hq,<- Hp.out]
      simp
      omega
    ·have e:j=m:=by omega
     subst e
     go_wp2
     refine ⟨⟨k+1,p,by omega,by go_num,rfl,?_,hp1,hK⟩,by simp only [intOf];omega⟩
     show _=_
     rw [qln Hl.out,Hq.out,<- Hp.out,<- Hm.out,List.take_length]
  ·have e:k=n:=by omega
   subst e
   have Hr:Hid (qaG ls no=q):=by show _=_;rw [<- Hq.out,<- Hn.out,List.take_length]
   go_wp2
   go_ret
   exact ⟨by rw [Hr.out];rfl,hK⟩
theorem qlp {ls:List Lk} {no:Int} {k:Nat} {l:Lk} (hl:ls[k]?=some l) (h0:(no != 0)=true) (h1:(l.owner==no)=true):qck ls no=true:=by
 unfold qck
 rw [List.any_eq_true]
 exact ⟨l,List.mem_of_getElem? hl,by rw [h0,h1];rfl⟩
theorem qlq {ls:List Lk} {no:Int} (h:∀ (j:Nat) (l:Lk),ls[j]?=some l->(no != 0&&l.owner==no)=false):qck ls no=false:=by
 unfold qck
 rw [List.any_eq_false]
 intro l hl
 obtain ⟨j,hj,rfl⟩:=List.mem_iff_getElem.1 hl
 simpa using h j _ (List.getElem?_eq_getElem hj)
set_option maxHeartbeats 1000000 in
theorem qlr (a:Option Addr) (cap:Nat) (ls:List Lk) (no:Int) (w:World) (hl:ls.length <= maxLen) (hs:Lks p w a ls) :
  Calls Tryz.prog 148 #[.slice a ls.length cap,.int .i64 no] w fun e w'=>e = .returned (.bool (qck ls no)) /\ Keeps w w':=by
 unfold maxLen at hl
 generalize hn:ls.length=n at hl
 have Hn:Hid (ls.length=n):=hn
 clear hn
 go_enter Tryz.func148,Tryz.ntmps148
 go_wp2
 go_loopw [5] (fun i wr=>∃ k:Nat,k <= n /\ i = .int .i64 k /\ Keeps w wr /\ Hid (∀ (j:Nat) (l:Lk),j < k->ls[j]?=some l->(no != 0&&l.owner==no)=false)) (fun i _=>n - (intOf i).toNat)
 case atStart=>exact ⟨0,Nat.zero_le _,rfl,Keeps.refl _,fun j y hj=>by omega⟩
 case round =>
  obtain ⟨k,hk,rfl,hK,H⟩:=hrel
  by_cases hlt:k < n
  ·obtain ⟨l,hl1⟩:=qal (xs:=ls) (k:=k) (by rw [Hn.out];exact hlt)
   obtain ⟨b,off,a',cap',rfl,r0,r1,-,-⟩:=hs.at hl1
   have hlt':(k:Int) < (n:Int):=by omega
   have Hl:Hid (ls[k]?=some l):=hl1
   clear hs hl1
   cases h0:(no != 0)
   ·go_wp2
    exact ⟨⟨k+1,by omega,by go_num,hK,fun j s hj hs=>rfl⟩,by simp only [intOf];omega⟩
   ·cases hq:(l.owner==no)
    ·go_wp2
     exact ⟨⟨k+1,by omega,by go_num,hK,fun j s hj hs=>by
      by_cases e:j=k
      ·subst e;rw [Hl.out] at hs;cases hs;rw [hq];simp
      ·have:=H.out j s (by omega) hs;rw [h0] at this;exact this⟩,by simp only [intOf];omega⟩
    ·have Hr:Hid (qck ls no=true):=qlp Hl.out h0 hq
     go_wp2
     go_ret
     exact ⟨by rw [Hr.out];rfl,hK⟩
  ·have Hr:Hid (qck ls no=false):=qlq fun j y hy=>H.out j y (by have:=qaw hy;rw [Hn.out] at this;omega) hy
   go_wp2
   go_ret
   exact ⟨by rw [Hr.out];rfl,hK⟩
end Go.Proofs.YteagpjlgjfaclaaGreatDoor
