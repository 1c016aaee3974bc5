/-
  Sums of parts without loss: the plain arithmetic. No Go in
  The contract of the model's l1In.
  Locks, as plain functions, and what holds of them.
  Locks: what is asked for and freed leaves right ones.
  Locks: freeing leaves right ones; what asking comes to.
  What is a nice: the contract of the model's NiceOk.
  What is a nice: the contract of the program's NiceOk.
  A struct is written over a block, cell by cell.
  Rows of elements of one size that lie one behind the other;
  Nothing old has turned, and a block holds its cells.
  All but one block is as it was.
  What every step from a walk to a given statement leans on.
  A part of time is right: contracts of the program's and of
-/
import Derived.Test.YteagpjlgjfaclaaGreatDoorRows
import Derived.Test.YteagpjlgjfaclaaGreatDoorBase
import Derived.Deep.OwnRows
import Derived.WalkKit
import Derived.ProofKit
import Derived.OpenShut
import Derived.ShutString
import Derived.ChangeOld
import Derived.Lib.SmallJoins
import Derived.Laws.ResultCell
namespace Go.Proofs.YteagpjlgjfaclaaGreatDoor.Plain
def jt (s x:Int × Int):Int × Int :=
 ((s.1*x.2+x.1*s.2) / (Int.gcd (s.1*x.2+x.1*s.2) (s.2*x.2):Int),(s.2*x.2) / (Int.gcd (s.1*x.2+x.1*s.2) (s.2*x.2):Int))
def cD (xs:List (Int × Int)):Int × Int:=xs.foldl jt (0,1)
theorem IE (xs:List (Int × Int)) (x:Int × Int):cD (xs++[x])=jt (cD xs) x:=by simp [cD]
theorem zx (xs:List (Int × Int)) (k:Nat) (h:k < xs.length):cD (xs.take (k+1))=jt (cD (xs.take k)) (xs.getD k (0,0)):=by
 rw [List.take_succ_eq_append_getElem h,IE];simp [h]
def Inv (k:Nat) (s:Int × Int):Prop:=0 <= s.1 /\ 1 <= s.2 /\ s.2 <= ((40 ^ k:Nat):Int) /\ s.1 <= (k:Int)*s.2
theorem zy:Inv 0 (0,1):=by simp [Inv]
theorem IF (n d g:Int) (_hg:1 <= g) (hn:g ∣ n) (hd:g ∣ d):n=g*(n / g) /\ d=g*(d / g):=⟨(Int.mul_ediv_cancel' hn).symm,(Int.mul_ediv_cancel' hd).symm⟩
theorem rS {a b c:Int} (h:a <= b) (hc:0 <= c):a*c <= b*c:=Int.mul_le_mul_of_nonneg_right h hc
theorem IG {a b c:Int} (h:a <= b) (hc:0 <= c):c*a <= c*b:=Int.mul_le_mul_of_nonneg_left h hc
theorem zP {k:Nat} {n d q p:Int} (h:Inv k (n,d)) (hp1:1 <= p) (hp2:p <= 40) (hq1:1 <= q) (hq2:q <= p) :
  1 <= (Int.gcd (n*p+q*d) (d*p):Int) /\ (Int.gcd (n*p+q*d) (d*p):Int) <= d*p /\ 0 <= n*p /\ 0 <= q*d /\ 1 <= d*p /\ n*p+q*d <= (k+1:Int)*(d*p) /\ n*p <= (k:Int)*(d*p) /\ q*d <= d*p /\ d*p <= ((40 ^ (k+1):Nat):Int) /\ Inv (k+1) (jt (n,d) (q,p)):=by
 obtain ⟨h1,h2,h3,h4⟩:=h
 simp only at h1 h2 h3 h4
 have a1:0 <= n*p:=Int.mul_nonneg h1 (by omega)
 have a2:0 <= q*d:=Int.mul_nonneg (by omega) (by omega)
 have a3:1*1 <= d*p:=Int.mul_le_mul h2 hp1 (by omega) (by omega)
 have a4:n*p <= ((k:Int)*d)*p:=rS h4 (by omega)
 have a5:q*d <= p*d:=rS hq2 (by omega)
 have a6:((k:Int)*d)*p=(k:Int)*(d*p):=Int.mul_assoc _ _ _
 have a7:p*d=d*p:=Int.mul_comm _ _
 have a8:(k+1:Int)*(d*p)=(k:Int)*(d*p)+d*p:=by rw [Int.add_mul,Int.one_mul]
 have a9:d*p <= ((40 ^ k:Nat):Int)*p:=rS h3 (by omega)
 have zk:((40 ^ k:Nat):Int)*p <= ((40 ^ k:Nat):Int)*40:=IG hp2 (by omega)
 have zl:((40 ^ (k+1):Nat):Int)=((40 ^ k:Nat):Int)*40:=by rw [Nat.pow_succ];exact Int.natCast_mul _ _
 have g0:0 < Int.gcd (n*p+q*d) (d*p):=Int.gcd_pos_of_ne_zero_right _ (by omega)
 have gd:=Int.gcd_dvd_right (n*p+q*d) (d*p)
 have gn:=Int.gcd_dvd_left (n*p+q*d) (d*p)
 have KG:=Int.le_of_dvd (by omega) gd
 unfold Inv jt
 simp only
 generalize (Int.gcd (n*p+q*d) (d*p):Nat)=g at *
 obtain ⟨e1,e2⟩:=IF _ _ (g:Int) (by omega) gn gd
 have f1:0 <= (n*p+q*d) / (g:Int):=Int.ediv_nonneg (by omega) (by omega)
 have f2:0 < (d*p) / (g:Int):=Int.ediv_pos_of_pos_of_dvd (by omega) (by omega) gd
 have f3:(d*p) / (g:Int) <= d*p:=Int.ediv_le_self _ (by omega)
 generalize (n*p+q*d) / (g:Int)=n' at *
 generalize (d*p) / (g:Int)=d' at *
 refine ⟨by omega,by omega,a1,a2,by omega,by omega,by omega,by omega,by omega,f1,by omega,by omega,?_⟩
 have c1:n*p+q*d <= (k+1:Int)*(d*p):=by omega
 rw [e1,e2] at c1
 have c2:(k+1:Int)*((g:Int)*d')=(g:Int)*((k+1:Int)*d'):=Int.mul_left_comm _ _ _
 rw [c2] at c1
 have:=Int.le_of_mul_le_mul_left c1 (by omega)
 simpa using this
theorem IH {k:Nat} (h:k <= 7):((40 ^ k:Nat):Int) <= 163840000000:=by
 have:40 ^ k <= 40 ^ 7:=Nat.pow_le_pow_right (by omega) h
 omega
theorem zQ {k:Nat} {n d q p:Int} (h:Inv k (n,d)) (hk:k < 7) (hp1:1 <= p) (hp2:p <= 40) (hq1:1 <= q) (hq2:q <= p) :
  0 <= n*p /\ n*p <= 1146880000000 /\ 0 <= q*d /\ q*d <= 163840000000 /\ 1 <= d*p /\ d*p <= 163840000000 /\ 1 <= (Int.gcd (n*p+q*d) (d*p):Int) /\ (Int.gcd (n*p+q*d) (d*p):Int) <= 163840000000:=by
 obtain ⟨a1,a2,a3,a4,a5,a6,a7,a8,a9,_⟩:=zP h hp1 hp2 hq1 hq2
 have:=IH (k:=k+1) (by omega)
 have:(k:Int)*(d*p) <= 7*(d*p):=rS (by omega) (by omega)
 omega
theorem zR {k:Nat} {n d q p:Int} (h:Inv k (n,d)) (hp1:1 <= p) (hp2:p <= 40) (hq1:1 <= q) (hq2:q <= p):Inv (k+1) (jt (n,d) (q,p)):=(zP h hp1 hp2 hq1 hq2).2.2.2.2.2.2.2.2.2
end Go.Proofs.YteagpjlgjfaclaaGreatDoor.Plain
namespace Go.Proofs.YteagpjlgjfaclaaGreatDoor
open Go.RowKit
theorem bq (x lo hi:Int) (w:World) :
  Calls Tryz.prog 27 #[.int .i64 x,.int .i64 lo,.int .i64 hi] w fun e w'=>e = .returned (.bool (aH x lo hi)) /\ w'=w:=by
 by_cases h1:lo <= x
 ·by_cases h2:x <= hi
  ·have Hr:Hid (aH x lo hi=true):=sa h1 h2
   go_enter Tryz.func27,Tryz.ntmps27
   go_wp2
   go_ret
   exact ⟨by rw [Hr.out];rfl,rfl⟩
  ·have Hr:Hid (aH x lo hi=false):=mh (.inr (by omega))
   have hd:decide (x <= hi)=false:=by simpa using h2
   go_enter Tryz.func27,Tryz.ntmps27
   go_wp2
   go_ret
   exact ⟨by rw [Hr.out];rfl,rfl⟩
 ·have Hr:Hid (aH x lo hi=false):=mh (.inl (by omega))
  have hd:decide (lo <= x)=false:=by simpa using h1
  go_enter Tryz.func27,Tryz.ntmps27
  go_wp2
  go_ret
  exact ⟨by rw [Hr.out];rfl,rfl⟩
end Go.Proofs.YteagpjlgjfaclaaGreatDoor
namespace Go.Proofs.YteagpjlgjfaclaaGreatDoor
open Go.RowKit
structure Lk where
 owner:Int
 waits:List Int
def hasB (xs:List Int) (x:Int):Bool:=xs.any fun y=>y==x
theorem j8 {xs:List Int} {x:Int}:hasB xs x=true↔x∈xs:=by simp [hasB]
theorem ur {xs:List Int} {x:Int}:hasB xs x=false↔x ∉ xs:=by rw [<- j8];simp
def da (ls:List Lk) (no:Int):Option Nat:=ls.findIdx? fun l=>hasB l.waits no
def dS (ls:List Lk) (no:Int):Int:=match da ls no with
 | some i=>i
 | none => -1
def dY (ls:List Lk) (i:Nat):Int:=match ls[i]? with
 | some l=>l.owner
 | none=>0
def cB (ls:List Lk):Nat->Int->List Int × Bool
 | 0,no=>([no],false)
 | f+1,no=>match da ls no with
  | none=>([no],true)
  | some i=>(no::(cB ls f (dY ls i)).1,(cB ls f (dY ls i)).2)
def eA (xs:List Int) (no:Int):Nat:=(xs.filter fun y=>y==no).length
def dR:List Lk->Int->Nat
 | [],_=>0
 | l::r,no=>eA l.waits no+dR r no
def iK (ls:List Lk) (no:Int):Bool:=(cB ls (ls.length+1) no).2&&(aH no 1 1000&&dR ls no==1)
def ik (ls:List Lk) (l:Lk):Bool:=aH l.owner 0 1000&&(!(l.owner==0&&decide (0 < l.waits.length))&&l.waits.all (iK ls))
def du (ls:List Lk):Bool:=decide (ls.length <= 5)&&ls.all (ik ls)
def hM (ls:List Lk) (no:Int):List Int:=if du ls then (cB ls (ls.length+1) no).1 else []
def gO (ls:List Lk) (no:Int):Bool:=ls.any fun l=>no != 0&&l.owner==no
def oh (no:Int) (l:Lk):Lk:={ l with owner:=no }
def ri (no:Int) (l:Lk):Lk:={ l with waits:=l.waits++[no] }
def eG (xs:List Int) (x:Int):List Int:=xs.filter fun y=>y != x
def qc1 (next:Int) (l:Lk):Lk:=⟨next,eG l.waits next⟩
def cf (ls:List Lk) (i no:Int):Int :=
 if !du ls then 2 else if !aH i 0 ((ls.length:Int) - 1)||(!aH no 1 1000||decide (0 <= dS ls no)) then 2
 else if dY ls i.toNat==no then 3 else if dY ls i.toNat==0 then 0 else if hasB (hM ls (dY ls i.toNat)) no then 4 else 1
def bM (ls:List Lk) (i no:Int):List Lk :=
 if !du ls then [] else if cf ls i no==0 then ls.modify i.toNat (oh no) else if cf ls i no==1 then ls.modify i.toNat (ri no) else ls
def lD (ls:List Lk) (i:Nat):List Int:=match ls[i]? with
 | some l=>l.waits
 | none=>[]
def qk (xs:List Int) (next:Int):Bool:=if xs.length==0 then next==0 else hasB xs next
def gX (ls:List Lk) (i no next:Int):Bool :=
 du ls&&(aH i 0 ((ls.length:Int) - 1)&&(!(no==0)&&(dY ls i.toNat==no&&qk (lD ls i.toNat) next)))
def fy (ls:List Lk) (i no next:Int):List Lk :=
 if !du ls then [] else if gX ls i no next then ls.modify i.toNat (qc1 next) else ls
section chains
variable {ls:List Lk}
theorem qc2 {no:Int} {i:Nat} (h:da ls no=some i):∃ l,ls[i]?=some l /\ hasB l.waits no=true /\ ∀ j m,j < i->ls[j]?=some m->hasB m.waits no=false:=by
 obtain ⟨hi,h1,h2⟩:=List.findIdx?_eq_some_iff_getElem.1 h
 refine ⟨ls[i],List.getElem?_eq_getElem hi,h1,fun j m hj hm => ?_⟩
 have hj':j < ls.length:=by omega
 rw [List.getElem?_eq_getElem hj'] at hm
 cases hm
 simpa using h2 j hj
theorem qj {no:Int} (h:da ls no=none):∀ (j:Nat) (m:Lk),ls[j]?=some m->hasB m.waits no=false:=by
 intro j m hm
 have:=List.findIdx?_eq_none_iff.1 h m (List.mem_of_getElem? hm)
 simpa using this
theorem ux {no:Int} {i:Nat} {l:Lk} (h0:ls[i]?=some l) (h1:hasB l.waits no=true) (h2:∀ j m,j < i->ls[j]?=some m->hasB m.waits no=false):da ls no=some i:=by
 have hi:i < ls.length:=by
  rcases Nat.lt_or_ge i ls.length with h | h
  ·exact h
  ·rw [List.getElem?_eq_none h] at h0;cases h0
 refine List.findIdx?_eq_some_iff_getElem.2 ⟨hi,?_,fun j hj => ?_⟩
 ·rw [List.getElem?_eq_getElem hi] at h0;cases h0;exact h1
 ·simpa using h2 j ls[j] hj (List.getElem?_eq_getElem _)
theorem rO {no:Int} (h:∀ (j:Nat) (m:Lk),ls[j]?=some m->hasB m.waits no=false):da ls no=none:=by
 refine List.findIdx?_eq_none_iff.2 fun m hm => ?_
 obtain ⟨j,hj,rfl⟩:=List.mem_iff_getElem.1 hm
 simpa using h j _ (List.getElem?_eq_getElem hj)
theorem iP {i:Nat} {l:Lk} (h:ls[i]?=some l):dY ls i=l.owner:=by simp [dY,h]
theorem ox {f:Nat} {no:Int} (h:da ls no=none):cB ls (f+1) no=([no],true):=by simp [cB,h]
theorem oy {f:Nat} {no:Int} {i:Nat} (h:da ls no=some i):cB ls (f+1) no=(no::(cB ls f (dY ls i)).1,(cB ls f (dY ls i)).2):=by simp [cB,h]
def Ends (ls:List Lk) (no:Int) (c:List Int):Prop:=∃ f,cB ls f no=(c,true)
theorem Ends.cases {no:Int} {c:List Int} (h:Ends ls no c):(da ls no=none /\ c=[no])∨∃ i r,da ls no=some i /\ c=no::r /\ Ends ls (dY ls i) r:=by
 obtain ⟨f,h⟩:=h
 cases f with
 | zero=>simp [cB] at h
 | succ f =>
  cases hw:da ls no with
  | none=>rw [ox hw] at h;cases h;exact .inl ⟨rfl,rfl⟩
  | some i =>
   rw [oy hw] at h
   simp only [Prod.mk.injEq] at h
   exact .inr ⟨i,_,rfl,h.1.symm,f,Prod.ext rfl h.2⟩
theorem Ends.stop {no:Int} (h:da ls no=none):Ends ls no [no]:=⟨1,ox h⟩
theorem Ends.step {no:Int} {i:Nat} {r:List Int} (h:da ls no=some i) (hr:Ends ls (dY ls i) r):Ends ls no (no::r):=by
 obtain ⟨f,hf⟩:=hr
 exact ⟨f+1,by rw [oy h,hf]⟩
theorem Ends.one:∀ {c d:List Int} {no:Int},Ends ls no c->Ends ls no d->c=d
 | [],_,_,h,_=>by rcases h.cases with ⟨_,e⟩ | ⟨_,_,_,e,_⟩ <;> cases e
 | x::r,d,no,h,h'=>by
  rcases h.cases with ⟨hw,e⟩ | ⟨i,r',hw,e,hr⟩
  ·rcases h'.cases with ⟨_,e'⟩ | ⟨i',_,hw',_,_⟩
   ·rw [e,e']
   ·rw [hw] at hw';cases hw'
  ·cases e
   rcases h'.cases with ⟨hw',_⟩ | ⟨i',KH,hw',e',hr'⟩
   ·rw [hw] at hw';cases hw'
   ·rw [hw] at hw';cases hw'
    rw [e',Ends.one hr hr']
theorem Ends.fuel:∀ {c:List Int} {no:Int},Ends ls no c->∀ g,c.length <= g->cB ls g no=(c,true)
 | [],_,h,_,_=>by rcases h.cases with ⟨_,e⟩ | ⟨_,_,_,e,_⟩ <;> cases e
 | x::r,no,h,0,hg=>by simp at hg
 | x::r,no,h,g+1,hg=>by
  rcases h.cases with ⟨hw,e⟩ | ⟨i,r',hw,e,hr⟩
  ·rw [ox hw,e]
  ·cases e
   rw [oy hw,Ends.fuel hr g (by simpa using hg)]
theorem Ends.len {no:Int} {c:List Int} {f:Nat} (h:cB ls f no=(c,true)):Ends ls no c:=⟨f,h⟩
theorem Ends.head {no:Int} {c:List Int} (h:Ends ls no c):c[0]?=some no:=by
 rcases h.cases with ⟨_,rfl⟩ | ⟨_,_,_,rfl,_⟩ <;> rfl
theorem Ends.pos {no:Int} {c:List Int} (h:Ends ls no c):0 < c.length:=by
 rcases h.cases with ⟨_,rfl⟩ | ⟨_,_,_,rfl,_⟩ <;> simp
theorem Ends.drop:∀ {p:Nat} {c:List Int} {no y:Int},Ends ls no c->c[p]?=some y->Ends ls y (c.drop p)
 | 0,c,no,y,h,hy=>by
  rw [h.head] at hy
  cases hy
  simpa using h
 | p+1,c,no,y,h,hy=>by
  rcases h.cases with ⟨_,rfl⟩ | ⟨i,r,_,rfl,hr⟩
  ·simp at hy
  ·have:=Ends.drop (p:=p) hr (by simpa using hy)
   simpa using this
theorem Ends.nodup {c:List Int} {no:Int} (h:Ends ls no c) {p q:Nat} {y:Int} (hp:c[p]?=some y) (hq:c[q]?=some y):p=q:=by
 have e:=Ends.one (h.drop hp) (h.drop hq)
 have lp:p < c.length:=by
  rcases Nat.lt_or_ge p c.length with h | h
  ·exact h
  ·rw [List.getElem?_eq_none h] at hp;cases hp
 have lq:q < c.length:=by
  rcases Nat.lt_or_ge q c.length with h | h
  ·exact h
  ·rw [List.getElem?_eq_none h] at hq;cases hq
 have:=congrArg List.length e
 simp only [List.length_drop] at this
 omega
theorem Ends.next {c:List Int} {no:Int} (h:Ends ls no c) {p:Nat} {y z:Int} (hp:c[p]?=some y) (hz:c[p+1]?=some z):∃ i,da ls y=some i /\ dY ls i=z:=by
 rcases (h.drop hp).cases with ⟨_,e⟩ | ⟨i,r,hw,e,hr⟩
 ·have:(c.drop p)[1]?=some z:=by rw [List.getElem?_drop,<- hz]
  rw [e] at this;simp at this
 ·have:(c.drop p)[1]?=some z:=by rw [List.getElem?_drop,<- hz]
  rw [e] at this
  have h0:=hr.head
  simp only [List.getElem?_cons_succ] at this
  rw [h0] at this
  exact ⟨i,hw,by simpa using this⟩
theorem Ends.last {c:List Int} {no:Int} (h:Ends ls no c) {p:Nat} {y:Int} (hp:c[p]?=some y) (hl:p+1=c.length):da ls y=none:=by
 rcases (h.drop hp).cases with ⟨hw,_⟩ | ⟨i,r,hw,e,hr⟩
 ·exact hw
 ·have:=congrArg List.length e
  have:=hr.pos
  simp only [List.length_drop,List.length_cons] at *
  omega
theorem rP:∀ (n m:Nat) (f:Nat->Nat),(∀ i,i < m->f i < n)->(∀ i j,i < m->j < m->f i=f j->i=j)->m <= n
 | 0,m,f,h,_=>by
  rcases Nat.eq_zero_or_pos m with e | e
  ·omega
  ·exact absurd (h 0 e) (Nat.not_lt_zero _)
 | n+1,m,f,h,hi=>by
  by_cases hx:∃ k,k < m /\ f k=n
  ·obtain ⟨k,hk,e⟩:=hx
   have:=rP n (m - 1) (fun i=>f (if i < k then i else i+1)) (fun i hm=>by
    split
    ·have h1:=h i (by omega)
     have h2:f i≠n:=fun h3=>by have:=hi i k (by omega) hk (h3.trans e.symm);omega
     omega
    ·have h1:=h (i+1) (by omega)
     have h2:f (i+1)≠n:=fun h3=>by have:=hi (i+1) k (by omega) hk (h3.trans e.symm);omega
     omega) (fun i j hm hj he=>by
    split at he <;> split at he <;> (have:=hi _ _ (by omega) (by omega) he;omega))
   omega
  ·have:=rP n m f (fun i hm=>by
    have h1:=h i hm
    have h2:f i≠n:=fun h3=>hx ⟨i,hm,h3⟩
    omega) hi
   omega
theorem Ends.bound {c:List Int} {no:Int} (h:Ends ls no c):c.length <= ls.length+1:=by
 have key:∀ p,p < c.length - 1->∃ i,da ls (c.getD p 0)=some i /\ i < ls.length /\ dY ls i=c.getD (p+1) 0:=by
  intro p hp
  have h1:c[p]?=some (c.getD p 0):=by rw [List.getD_eq_getElem?_getD,List.getElem?_eq_getElem (by omega)];rfl
  have h2:c[p+1]?=some (c.getD (p+1) 0):=by rw [List.getD_eq_getElem?_getD,List.getElem?_eq_getElem (by omega)];rfl
  obtain ⟨i,hi,ho⟩:=h.next h1 h2
  obtain ⟨l,hl,_⟩:=qc2 hi
  refine ⟨i,hi,?_,ho⟩
  rcases Nat.lt_or_ge i ls.length with h | h
  ·exact h
  ·rw [List.getElem?_eq_none h] at hl;cases hl
 have:=rP ls.length (c.length - 1) (fun p=>(da ls (c.getD p 0)).getD 0) (fun p hp=>by
  obtain ⟨i,hi,hlt,_⟩:=key p hp
  simp only [hi,Option.getD_some];exact hlt) (fun p q hp hq e=>by
  obtain ⟨i,hi,_,ho⟩:=key p hp
  obtain ⟨j,hj,_,ho'⟩:=key q hq
  simp only [hi,hj,Option.getD_some] at e
  subst e
  have h1:c[p+1]?=some (c.getD (p+1) 0):=by rw [List.getD_eq_getElem?_getD,List.getElem?_eq_getElem (by omega)];rfl
  have h2:c[q+1]?=some (c.getD (q+1) 0):=by rw [List.getD_eq_getElem?_getD,List.getElem?_eq_getElem (by omega)];rfl
  rw [<- ho,ho'] at h1
  have:=h.nodup h1 h2
  omega)
 omega
theorem tz {no:Int}:(cB ls (ls.length+1) no).2=true↔∃ c,Ends ls no c:=by
 constructor
 ·intro h;exact ⟨(cB ls (ls.length+1) no).1,_,Prod.ext rfl h⟩
 ·rintro ⟨c,h⟩;rw [h.fuel _ h.bound]
theorem Ends.is {no:Int} {c:List Int} (h:Ends ls no c):cB ls (ls.length+1) no=(c,true):=h.fuel _ h.bound
end chains
end Go.Proofs.YteagpjlgjfaclaaGreatDoor
namespace Go.Proofs.YteagpjlgjfaclaaGreatDoor
open Go.RowKit
theorem qc3 {α:Type} {xs:List α} {k:Nat} {x:α} (h:xs[k]?=some x):k < xs.length:=by
 rcases Nat.lt_or_ge k xs.length with h' | h'
 ·exact h'
 ·rw [List.getElem?_eq_none h'] at h;cases h
theorem il {ls:List Lk} {k i:Nat} {m y:Lk} (h:(ls.set k y)[i]?=some m):(i=k /\ m=y)∨(i≠k /\ ls[i]?=some m):=by
 by_cases e:k=i
 ·subst e
  have hl:k < ls.length:=by have:=qc3 h;simpa using this
  rw [List.getElem?_set_self hl] at h
  cases h;exact .inl ⟨rfl,rfl⟩
 ·rw [List.getElem?_set_ne e] at h
  exact .inr ⟨Ne.symm e,h⟩
theorem zS {ls:List Lk} {i:Nat} {l:Lk} (h:ls[i]?=some l) (f:Lk->Lk):ls.modify i f=ls.set i (f l):=by
 apply List.ext_getElem?
 intro j
 by_cases e:i=j
 ·subst e
  rw [List.getElem?_modify,List.getElem?_set_self (qc3 h),h]
  simp
 ·rw [List.getElem?_modify,List.getElem?_set_ne e]
  simp [e]
theorem uu {xs:List Int} {x:Int}:0 < eA xs x↔hasB xs x=true:=by
 unfold eA hasB
 rw [List.length_pos_iff_exists_mem,List.any_eq_true]
 constructor
 ·rintro ⟨y,hy⟩;rw [List.mem_filter] at hy;exact ⟨y,hy.1,hy.2⟩
 ·rintro ⟨y,h1,h2⟩;exact ⟨y,List.mem_filter.2 ⟨h1,h2⟩⟩
theorem uq {xs:List Int} {x:Int}:eA xs x=0↔hasB xs x=false:=by
 have:=uu (xs:=xs) (x:=x)
 cases h:hasB xs x
 ·rw [h] at this;simp at this;simp;exact this
 ·rw [h] at this;simp at this;simp;omega
theorem oK:∀ {ls:List Lk} {j:Nat} {l:Lk} (m:Lk) (x:Int),ls[j]?=some l->dR (ls.set j m) x+eA l.waits x=dR ls x+eA m.waits x
 | [],j,l,m,x,h=>by simp at h
 | y::r,0,l,m,x,h=>by
  simp at h
  subst h
  simp only [List.set_cons_zero,dR]
  omega
 | y::r,j+1,l,m,x,h=>by
  have:=oK (ls:=r) (j:=j) m x (by simpa using h)
  simp only [List.set_cons_succ,dR]
  omega
theorem zT:∀ {ls:List Lk} {j:Nat} {l:Lk} (x:Int),ls[j]?=some l->eA l.waits x <= dR ls x
 | [],j,l,x,h=>by simp at h
 | y::r,0,l,x,h=>by simp at h;subst h;simp only [dR];omega
 | y::r,j+1,l,x,h=>by
  have:=zT (ls:=r) (j:=j) x (by simpa using h)
  simp only [dR];omega
theorem II {ls:List Lk} {x:Int} (h:∀ (j:Nat) (l:Lk),ls[j]?=some l->hasB l.waits x=false):dR ls x=0:=by
 induction ls with
 | nil=>rfl
 | cons y r ih =>
  have h0:=uq.2 (h 0 y rfl)
  have h1:=ih fun j l hl=>h (j+1) l (by simpa using hl)
  simp only [dR];omega
theorem IJ {ls:List Lk} {x:Int} (h1:dR ls x=1) {i j:Nat} {l m:Lk} (hl:ls[j]?=some l) (hx:hasB l.waits x=true) (hm:ls[i]?=some m) (hij:i≠j):hasB m.waits x=false:=by
 have e:=oK (⟨0,[]⟩:Lk) x hl
 have c0:eA ([]:List Int) x=0:=rfl
 have cp:=uu.2 hx
 rw [h1] at e
 simp only [c0] at e
 have hm':(ls.set j (⟨0,[]⟩:Lk))[i]?=some m:=by rw [List.getElem?_set_ne (Ne.symm hij)];exact hm
 have:=zT x hm'
 exact uq.1 (by omega)
structure Right (ls:List Lk):Prop where
 len:ls.length <= 5
 owner:∀ (j:Nat) (l:Lk),ls[j]?=some l->0 <= l.owner /\ l.owner <= 1000
 free:∀ (j:Nat) (l:Lk),ls[j]?=some l->l.owner=0->l.waits=[]
 no:∀ (j:Nat) (l:Lk) (x:Int),ls[j]?=some l->hasB l.waits x=true->1 <= x /\ x <= 1000
 once:∀ (j:Nat) (l:Lk) (x:Int),ls[j]?=some l->hasB l.waits x=true->dR ls x=1
 ends:∀ (j:Nat) (l:Lk) (x:Int),ls[j]?=some l->hasB l.waits x=true->∃ c,Ends ls x c
theorem pM {ls:List Lk}:du ls=true↔Right ls:=by
 unfold du
 simp only [Bool.and_eq_true,decide_eq_true_eq,List.all_eq_true]
 have wb:∀ x,iK ls x=true↔(∃ c,Ends ls x c) /\ (1 <= x /\ x <= 1000) /\ dR ls x=1:=by
  intro x
  unfold iK
  rw [Bool.and_eq_true,Bool.and_eq_true,tz,dq,beq_iff_eq]
 have lb:∀ l,ik ls l=true↔(0 <= l.owner /\ l.owner <= 1000) /\ (l.owner=0->l.waits=[]) /\ ∀ x,hasB l.waits x=true->iK ls x=true:=by
  intro l
  unfold ik
  rw [Bool.and_eq_true,Bool.and_eq_true,dq,List.all_eq_true]
  refine and_congr Iff.rfl (and_congr ?_ ?_)
  ·rw [Bool.not_eq_true',Bool.and_eq_false_iff]
   constructor
   ·rintro (h | h) e
    ·simp [e] at h
    ·simp at h;exact h
   ·intro h
    by_cases e:l.owner=0
    ·right;rw [h e];rfl
    ·left;simpa using e
  ·constructor
   ·intro h x hx;exact h x (j8.1 hx)
   ·intro h x hx;exact h x (j8.2 hx)
 constructor
 ·rintro ⟨h1,h2⟩
  have key:∀ (j:Nat) (l:Lk),ls[j]?=some l->ik ls l=true:=fun j l hl=>h2 l (List.mem_of_getElem? hl)
  exact ⟨h1,fun j l hl=>((lb l).1 (key j l hl)).1,fun j l hl=>((lb l).1 (key j l hl)).2.1,fun j l x hl hx=>((wb x).1 (((lb l).1 (key j l hl)).2.2 x hx)).2.1,fun j l x hl hx=>((wb x).1 (((lb l).1 (key j l hl)).2.2 x hx)).2.2,fun j l x hl hx=>((wb x).1 (((lb l).1 (key j l hl)).2.2 x hx)).1⟩
 ·intro R
  refine ⟨R.len,fun l hl => ?_⟩
  obtain ⟨j,hj,rfl⟩:=List.mem_iff_getElem.1 hl
  have e:=List.getElem?_eq_getElem hj
  exact (lb _).2 ⟨R.owner j _ e,R.free j _ e,fun x hx=>(wb x).2 ⟨R.ends j _ x e hx,R.no j _ x e hx,R.once j _ x e hx⟩⟩
theorem Right.chain {ls:List Lk} (R:Right ls) (x:Int):∃ c,Ends ls x c:=by
 cases h:da ls x with
 | none=>exact ⟨_,Ends.stop h⟩
 | some i =>
  obtain ⟨l,hl,hx,_⟩:=qc2 h
  exact R.ends i l x hl hx
theorem IK {ls:List Lk} (R:Right ls) {x:Int} {c:List Int} (h:Ends ls x c):hM ls x=c:=by
 unfold hM
 rw [pM.2 R,h.is];rfl
theorem uy {ls ls':List Lk} {x:Int} (hl:ls'.length=ls.length) (h:∀ (j:Nat) (m m':Lk),ls[j]?=some m->ls'[j]?=some m'->hasB m'.waits x=hasB m.waits x):da ls' x=da ls x:=by
 have get:∀ (j:Nat) (m':Lk),ls'[j]?=some m'->∃ m,ls[j]?=some m:=fun j m' hm=>⟨ls[j]'(by have:=qc3 hm;omega),List.getElem?_eq_getElem _⟩
 cases hw:da ls x with
 | none =>
  refine rO fun j m' hm => ?_
  obtain ⟨m,hm0⟩:=get j m' hm
  rw [h j m m' hm0 hm];exact qj hw j m hm0
 | some i =>
  obtain ⟨l,hl1,hx,hmin⟩:=qc2 hw
  have hi:i < ls'.length:=by have:=qc3 hl1;omega
  refine ux (List.getElem?_eq_getElem hi) ?_ fun j m' hj hm => ?_
  ·rw [h i l _ hl1 (List.getElem?_eq_getElem hi)];exact hx
  ·obtain ⟨m,hm0⟩:=get j m' hm
   rw [h j m m' hm0 hm];exact hmin j m hj hm0
theorem zU {ls ls':List Lk} (hw:∀ x,da ls' x=da ls x) (ho:∀ (x:Int) (i:Nat),da ls x=some i->dY ls' i=dY ls i):∀ {c:List Int} {x:Int},Ends ls x c->Ends ls' x c
 | [],_,h=>by rcases h.cases with ⟨_,e⟩ | ⟨_,_,_,e,_⟩ <;> cases e
 | y::r,x,h=>by
  rcases h.cases with ⟨h1,e⟩ | ⟨i,r',h1,e,hr⟩
  ·rw [e];exact Ends.stop ((hw x).trans h1)
  ·cases e
   refine Ends.step ((hw _).trans h1) ?_
   rw [ho _ i h1]
   exact zU hw ho hr
theorem uz {ls:List Lk} {j i:Nat} {m:Lk} (h:i≠j):dY (ls.set j m) i=dY ls i:=by
 unfold dY
 rw [List.getElem?_set_ne (Ne.symm h)]
theorem zV {ls:List Lk} {j:Nat} {m:Lk} (h:j < ls.length):dY (ls.set j m) j=m.owner:=by
 unfold dY
 rw [List.getElem?_set_self h]
theorem Right.owned {ls:List Lk} (R:Right ls) {j:Nat} {l:Lk} (hl:ls[j]?=some l) (hw:l.waits=[]) {o:Int} (ho:0 <= o /\ o <= 1000):Right (ls.set j ⟨o,[]⟩):=by
 have hj:=qc3 hl
 have qm:∀ x,da (ls.set j ⟨o,[]⟩) x=da ls x:=fun x=>uy (by simp) fun i m m' hm hm'=>by
  rcases il hm' with ⟨rfl,rfl⟩ | ⟨_,h⟩
  ·rw [hl] at hm;cases hm;rw [hw]
  ·rw [hm] at h;cases h;rfl
 have qn:∀ {c:List Int} {x:Int},Ends ls x c->Ends (ls.set j ⟨o,[]⟩) x c:=fun h=>zU qm (fun x i hi=>uz fun e=>by
  obtain ⟨m,hm,hx,_⟩:=qc2 hi
  rw [e,hl] at hm;cases hm
  rw [hw] at hx;simp [hasB] at hx) h
 have hU:∀ x,dR (ls.set j ⟨o,[]⟩) x=dR ls x:=fun x=>by
  have:=oK (⟨o,[]⟩:Lk) x hl
  simp only [hw] at this
  omega
 refine ⟨by simpa using R.len,?_,?_,?_,?_,?_⟩
 ·intro i m hm
  rcases il hm with ⟨rfl,rfl⟩ | ⟨_,h⟩
  ·exact ho
  ·exact R.owner i m h
 ·intro i m hm
  rcases il hm with ⟨rfl,rfl⟩ | ⟨_,h⟩
  ·exact fun _=>rfl
  ·exact R.free i m h
 ·intro i m x hm hx
  rcases il hm with ⟨rfl,rfl⟩ | ⟨_,h⟩
  ·simp [hasB] at hx
  ·exact R.no i m x h hx
 ·intro i m x hm hx
  rw [hU]
  rcases il hm with ⟨rfl,rfl⟩ | ⟨_,h⟩
  ·simp [hasB] at hx
  ·exact R.once i m x h hx
 ·intro i m x hm hx
  rcases il hm with ⟨rfl,rfl⟩ | ⟨_,h⟩
  ·simp [hasB] at hx
  ·obtain ⟨c,hc⟩:=R.ends i m x h hx
   exact ⟨c,qn hc⟩
theorem zW (xs ys:List Int) (x:Int):hasB (xs++ys) x=(hasB xs x||hasB ys x):=by simp [hasB]
section wait
variable {ls:List Lk} {j:Nat} {l:Lk} {no:Int}
theorem qo (hl:ls[j]?=some l) (hn:da ls no=none):(∀ x,x≠no->da (ls.set j { l with waits:=l.waits++[no] }) x=da ls x) /\ da (ls.set j { l with waits:=l.waits++[no] }) no=some j:=by
 refine ⟨fun x hx=>uy (by simp) fun i m m' hm hm' => ?_,ux (List.getElem?_set_self (qc3 hl)) (by simp [hasB]) fun i m hi hm => ?_⟩
 ·rcases il hm' with ⟨rfl,rfl⟩ | ⟨_,h⟩
  ·rw [hl] at hm;cases hm
   simp only [zW]
   have:hasB [no] x=false:=by simp [hasB];exact fun e=>hx e.symm
   rw [this,Bool.or_false]
  ·rw [hm] at h;cases h;rfl
 ·rcases il hm with ⟨rfl,_⟩ | ⟨_,h⟩
  ·omega
  ·exact qj hn i m h
theorem rU (hl:ls[j]?=some l) (i:Nat):dY (ls.set j { l with waits:=l.waits++[no] }) i=dY ls i:=by
 by_cases e:i=j
 ·subst e;rw [zV (qc3 hl),iP hl]
 ·exact uz e
theorem uA (hl:ls[j]?=some l) (hn:da ls no=none):∀ {c:List Int} {x:Int},Ends ls x c->no ∉ c->Ends (ls.set j { l with waits:=l.waits++[no] }) x c
 | [],_,h,_=>by rcases h.cases with ⟨_,e⟩ | ⟨_,_,_,e,_⟩ <;> cases e
 | y::r,x,h,hc=>by
  rcases h.cases with ⟨h1,e⟩ | ⟨i,r',h1,e,hr⟩
  ·rw [e] at hc ⊢
   exact Ends.stop (((qo hl hn).1 x (fun e=>hc (by rw [e];simp))).trans h1)
  ·cases e
   refine Ends.step (((qo hl hn).1 _ (fun e=>hc (by rw [e];simp))).trans h1) ?_
   rw [rU hl]
   exact uA hl hn hr (fun h=>hc (List.mem_cons_of_mem _ h))
theorem zX (hl:ls[j]?=some l) (hn:da ls no=none) {d:List Int} (hd:Ends (ls.set j { l with waits:=l.waits++[no] }) l.owner d):∀ {c:List Int} {x:Int},Ends ls x c->no∈c->Ends (ls.set j { l with waits:=l.waits++[no] }) x (c++d)
 | [],_,h,_=>by rcases h.cases with ⟨_,e⟩ | ⟨_,_,_,e,_⟩ <;> cases e
 | y::r,x,h,hc=>by
  rcases h.cases with ⟨h1,e⟩ | ⟨i,r',h1,e,hr⟩
  ·rw [e] at hc ⊢
   have ex:x=no:=by have:=List.mem_singleton.1 hc;exact this.symm
   subst ex
   refine Ends.step (qo hl hn).2 ?_
   rw [rU hl,iP hl]
   exact hd
  ·cases e
   have hx:y≠no:=fun e=>by rw [e,hn] at h1;cases h1
   refine Ends.step (((qo hl hn).1 y hx).trans h1) ?_
   rw [rU hl]
   refine zX hl hn hd hr ?_
   rcases List.mem_cons.1 hc with e | e
   ·exact absurd e.symm hx
   ·exact e
theorem Right.waited (R:Right ls) (hl:ls[j]?=some l) (h0:l.owner≠0) (hno:1 <= no /\ no <= 1000) (hn:da ls no=none) {d:List Int} (hd:Ends ls l.owner d) (hnd:no ∉ d) :
  Right (ls.set j { l with waits:=l.waits++[no] }) /\ Ends (ls.set j { l with waits:=l.waits++[no] }) no (no::d):=by
 have hd':=uA hl hn hd hnd
 have e0:Ends (ls.set j { l with waits:=l.waits++[no] }) no (no::d):=by
  refine Ends.step (qo hl hn).2 ?_
  rw [rU hl,iP hl]
  exact hd'
 have hz:∀ (i:Nat) (m:Lk),ls[i]?=some m->hasB m.waits no=false:=qj hn
 have hU:∀ x,x≠no->dR (ls.set j { l with waits:=l.waits++[no] }) x=dR ls x:=fun x hx=>by
  have:=oK ({ l with waits:=l.waits++[no] }:Lk) x hl
  have c:eA (l.waits++[no]) x=eA l.waits x:=by
   unfold eA
   rw [List.filter_append]
   have:([no].filter fun y=>y==x)=[]:=by simp;exact fun e=>hx e.symm
   rw [this];simp
  simp only [c] at this
  omega
 have none':dR (ls.set j { l with waits:=l.waits++[no] }) no=1:=by
  have:=oK ({ l with waits:=l.waits++[no] }:Lk) no hl
  have c:eA (l.waits++[no]) no=eA l.waits no+1:=by unfold eA;simp
  simp only [c] at this
  have:=II hz
  omega
 have back:∀ (i:Nat) (m:Lk) (x:Int),(ls.set j { l with waits:=l.waits++[no] })[i]?=some m->hasB m.waits x=true->x=no∨∃ (k:Nat) (m0:Lk),ls[k]?=some m0 /\ hasB m0.waits x=true:=by
  intro i m x hm hx
  rcases il hm with ⟨rfl,rfl⟩ | ⟨_,h⟩
  ·simp only [zW,Bool.or_eq_true] at hx
   rcases hx with h | h
   ·exact .inr ⟨i,l,hl,h⟩
   ·left;simp [hasB] at h;exact h.symm
  ·exact .inr ⟨i,m,h,hx⟩
 refine ⟨⟨by simpa using R.len,?_,?_,?_,?_,?_⟩,e0⟩
 ·intro i m hm
  rcases il hm with ⟨rfl,rfl⟩ | ⟨_,h⟩
  ·exact R.owner i l hl
  ·exact R.owner i m h
 ·intro i m hm e
  rcases il hm with ⟨rfl,rfl⟩ | ⟨_,h⟩
  ·exact absurd e h0
  ·exact R.free i m h e
 ·intro i m x hm hx
  rcases back i m x hm hx with rfl | ⟨k,m0,h1,h2⟩
  ·exact hno
  ·exact R.no k m0 x h1 h2
 ·intro i m x hm hx
  by_cases e:x=no
  ·rw [e];exact none'
  ·rcases back i m x hm hx with h | ⟨k,m0,h1,h2⟩
   ·exact absurd h e
   ·rw [hU x e];exact R.once k m0 x h1 h2
 ·intro i m x hm hx
  rcases back i m x hm hx with rfl | ⟨k,m0,h1,h2⟩
  ·exact ⟨_,e0⟩
  ·obtain ⟨c,hc⟩:=R.ends k m0 x h1 h2
   by_cases h:no∈c
   ·exact ⟨_,zX hl hn hd' hc h⟩
   ·exact ⟨_,uA hl hn hc h⟩
end wait
end Go.Proofs.YteagpjlgjfaclaaGreatDoor
namespace Go.Proofs.YteagpjlgjfaclaaGreatDoor
open Go.RowKit
theorem uB {xs:List Int} {x y:Int}:hasB (eG xs y) x=(hasB xs x&&x != y):=by
 apply Bool.eq_iff_iff.2
 rw [j8,Bool.and_eq_true,j8]
 unfold eG
 rw [List.mem_filter]
theorem IL {xs:List Int} {x y:Int} (h:x≠y):eA (eG xs y) x=eA xs x:=by
 unfold eA eG
 rw [List.filter_filter]
 congr 1
 apply List.filter_congr
 intro z _
 by_cases e:z=x
 ·subst e;simp [h]
 ·simp [e]
section free
variable {ls:List Lk} {j:Nat} {l:Lk} {next:Int}
theorem rV (R:Right ls) (hl:ls[j]?=some l) (hx:hasB l.waits next=true):(∀ x,x≠next->da (ls.set j ⟨next,eG l.waits next⟩) x=da ls x) /\ da (ls.set j ⟨next,eG l.waits next⟩) next=none:=by
 refine ⟨fun x hne=>uy (by simp) fun i m m' hm hm' => ?_,rO fun i m hm => ?_⟩
 ·rcases il hm' with ⟨rfl,rfl⟩ | ⟨_,h⟩
  ·rw [hl] at hm;cases hm
   simp only [uB]
   have:(x != next)=true:=by simpa using hne
   rw [this,Bool.and_true]
  ·rw [hm] at h;cases h;rfl
 ·rcases il hm with ⟨rfl,rfl⟩ | ⟨hij,h⟩
  ·simp only [uB];simp
  ·exact IJ (R.once j l next hl hx) hl hx h hij
theorem zY (R:Right ls) (hl:ls[j]?=some l) (hx:hasB l.waits next=true):∀ {c:List Int} {x:Int},Ends ls x c->∃ c',Ends (ls.set j ⟨next,eG l.waits next⟩) x c'
 | [],_,h=>by rcases h.cases with ⟨_,e⟩ | ⟨_,_,_,e,_⟩ <;> cases e
 | y::r,x,h=>by
  by_cases hn:x=next
  ·rw [hn];exact ⟨_,Ends.stop (rV R hl hx).2⟩
  ·have hw:=(rV R hl hx).1 x hn
   rcases h.cases with ⟨h1,_⟩ | ⟨i,r',h1,e,hr⟩
   ·exact ⟨_,Ends.stop (hw.trans h1)⟩
   ·by_cases hij:i=j
    ·subst hij
     refine ⟨_,Ends.step (hw.trans h1) (r:=[next]) ?_⟩
     rw [zV (qc3 hl)]
     exact Ends.stop (rV R hl hx).2
    ·cases e
     obtain ⟨c',hc'⟩:=zY R hl hx hr
     refine ⟨_,Ends.step (hw.trans h1) (r:=c') ?_⟩
     rw [uz hij];exact hc'
theorem Right.freed (R:Right ls) (hl:ls[j]?=some l) (hx:hasB l.waits next=true):Right (ls.set j ⟨next,eG l.waits next⟩):=by
 have hno:=R.no j l next hl hx
 have hU:∀ x,x≠next->dR (ls.set j ⟨next,eG l.waits next⟩) x=dR ls x:=fun x hne=>by
  have:=oK (⟨next,eG l.waits next⟩:Lk) x hl
  simp only [IL hne] at this
  omega
 have back:∀ (i:Nat) (m:Lk) (x:Int),(ls.set j ⟨next,eG l.waits next⟩)[i]?=some m->hasB m.waits x=true->x≠next /\ ∃ (k:Nat) (m0:Lk),ls[k]?=some m0 /\ hasB m0.waits x=true:=by
  intro i m x hm hxm
  have hne:x≠next:=fun e=>by
   have:=qj (rV R hl hx).2 i m hm
   rw [e,this] at hxm;cases hxm
  refine ⟨hne,?_⟩
  rcases il hm with ⟨rfl,rfl⟩ | ⟨_,h⟩
  ·simp only [uB,Bool.and_eq_true] at hxm
   exact ⟨i,l,hl,hxm.1⟩
  ·exact ⟨i,m,h,hxm⟩
 refine ⟨by simpa using R.len,?_,?_,?_,?_,?_⟩
 ·intro i m hm
  rcases il hm with ⟨rfl,rfl⟩ | ⟨_,h⟩
  ·exact ⟨by simp only;omega,hno.2⟩
  ·exact R.owner i m h
 ·intro i m hm e
  rcases il hm with ⟨rfl,rfl⟩ | ⟨_,h⟩
  ·simp only at e;omega
  ·exact R.free i m h e
 ·intro i m x hm hxm
  obtain ⟨_,k,m0,h1,h2⟩:=back i m x hm hxm
  exact R.no k m0 x h1 h2
 ·intro i m x hm hxm
  obtain ⟨hne,k,m0,h1,h2⟩:=back i m x hm hxm
  rw [hU x hne];exact R.once k m0 x h1 h2
 ·intro i m x hm hxm
  obtain ⟨_,k,m0,h1,h2⟩:=back i m x hm hxm
  obtain ⟨c,hc⟩:=R.ends k m0 x h1 h2
  exact zY R hl hx hc
end free
theorem IM {ls:List Lk} {no:Int} (h:decide (0 <= dS ls no)=false):da ls no=none:=by
 unfold dS at h
 split at h
 ·simp at h
 ·assumption
def IN (ls:List Lk) (i no:Int):Prop :=
 ((cf ls i no=2∨cf ls i no=3) /\ bM ls i no=ls) ∨
 (∃ (j:Nat) (l:Lk),i=(j:Int) /\ ls[j]?=some l /\ l.owner=0 /\ (1 <= no /\ no <= 1000) /\ da ls no=none /\ cf ls i no=0 /\ bM ls i no=ls.set j ⟨no,[]⟩) ∨
 (∃ (j:Nat) (l:Lk),i=(j:Int) /\ ls[j]?=some l /\ hasB (hM ls l.owner) no=true /\ cf ls i no=4 /\ bM ls i no=ls) ∨
 ∃ (j:Nat) (l:Lk),i=(j:Int) /\ ls[j]?=some l /\ l.owner≠0 /\ l.owner≠no /\ (1 <= no /\ no <= 1000) /\ da ls no=none /\ hasB (hM ls l.owner) no=false /\ cf ls i no=1 /\ bM ls i no=ls.set j { l with waits:=l.waits++[no] }
theorem IP {ls:List Lk} (R:Right ls) (i no:Int):IN ls i no:=by
 have hb:=pM.2 R
 have key:∀ n,cf ls i no=n->(n≠0 /\ n≠1->bM ls i no=ls) /\ (n=0->bM ls i no=ls.modify i.toNat (oh no)) /\ (n=1->bM ls i no=ls.modify i.toNat (ri no)):=by
  rintro n rfl
  refine ⟨fun h => ?_,fun h => ?_,fun h => ?_⟩
  ·unfold bM;rw [hb];simp [h.1,h.2]
  ·unfold bM;rw [hb];simp [h]
  ·unfold bM;rw [hb];simp [h]
 by_cases c:(!aH i 0 ((ls.length:Int) - 1)||(!aH no 1 1000||decide (0 <= dS ls no)))=true
 ·have e:cf ls i no=2:=by unfold cf;rw [hb,c];rfl
  exact .inl ⟨.inl e,(key 2 e).1 (by decide)⟩
 ·rw [Bool.not_eq_true,Bool.or_eq_false_iff,Bool.or_eq_false_iff] at c
  obtain ⟨c1,c2,c3⟩:=c
  have c1':=c1
  have c2':=c2
  rw [Bool.not_eq_false'] at c1' c2'
  obtain ⟨h0,h1⟩:=dq.1 c1'
  obtain ⟨j,rfl⟩:∃ j:Nat,i=(j:Int):=⟨i.toNat,by omega⟩
  have hj:j < ls.length:=by omega
  have hl:ls[j]?=some ls[j]:=List.getElem?_eq_getElem hj
  have hno:=dq.1 c2'
  have hn:=IM c3
  have go:cf ls (j:Int) no=if ls[j].owner==no then 3 else if ls[j].owner==0 then 0 else if hasB (hM ls ls[j].owner) no then 4 else 1:=by
   unfold cf
   rw [hb,c1,c2,c3,Int.toNat_natCast,iP hl]
   rfl
  cases c4:(ls[j].owner==no)
  ·cases c5:(ls[j].owner==0)
   ·cases c6:hasB (hM ls ls[j].owner) no
    ·have e:cf ls (j:Int) no=1:=by rw [go,c4,c5,c6];rfl
     have e2:=(key 1 e).2.2 rfl
     rw [Int.toNat_natCast,zS hl] at e2
     exact .inr (.inr (.inr ⟨j,ls[j],rfl,hl,by simpa using c5,by simpa using c4,hno,hn,c6,e,e2⟩))
    ·have e:cf ls (j:Int) no=4:=by rw [go,c4,c5,c6];rfl
     exact .inr (.inr (.inl ⟨j,ls[j],rfl,hl,c6,e,(key 4 e).1 (by decide)⟩))
   ·have e:cf ls (j:Int) no=0:=by rw [go,c4,c5];rfl
    have e2:=(key 0 e).2.1 rfl
    have ho:ls[j].owner=0:=by simpa using c5
    rw [Int.toNat_natCast,zS hl] at e2
    have:oh no ls[j]=⟨no,[]⟩:=by unfold oh;rw [R.free j _ hl ho]
    rw [this] at e2
    exact .inr (.inl ⟨j,ls[j],rfl,hl,ho,hno,hn,e,e2⟩)
  ·have e:cf ls (j:Int) no=3:=by rw [go,c4];rfl
   exact .inl ⟨.inr e,(key 3 e).1 (by decide)⟩
theorem Cp {ls:List Lk} (R:Right ls) (i no:Int):Right (bM ls i no) /\ (bM ls i no).length=ls.length:=by
 rcases IP R i no with ⟨_,e⟩ | ⟨j,l,hi,hl,h0,hno,hn,_,e⟩ | ⟨_,_,_,_,_,_,e⟩ | ⟨j,l,hi,hl,h0,h1,hno,hn,hc,_,e⟩
 ·rw [e];exact ⟨R,rfl⟩
 ·rw [e];exact ⟨R.owned hl (R.free j l hl h0) ⟨by omega,hno.2⟩,by simp⟩
 ·rw [e];exact ⟨R,rfl⟩
 ·rw [e]
  obtain ⟨d,hd⟩:=R.chain l.owner
  rw [IK R hd] at hc
  exact ⟨(R.waited hl h0 hno hn hd (ur.1 hc)).1,by simp⟩
theorem Co {n:Nat} (h:n <= 5):Right (List.replicate n (⟨0,[]⟩:Lk)):=by
 have key:∀ (j:Nat) (l:Lk),(List.replicate n (⟨0,[]⟩:Lk))[j]?=some l->l=⟨0,[]⟩:=fun j l hl=>List.eq_of_mem_replicate (List.mem_of_getElem? hl)
 refine ⟨by simpa using h,?_,?_,?_,?_,?_⟩
 ·intro j l hl;rw [key j l hl];simp
 ·intro j l hl _;rw [key j l hl]
 ·intro j l x hl hx;rw [key j l hl] at hx;simp [hasB] at hx
 ·intro j l x hl hx;rw [key j l hl] at hx;simp [hasB] at hx
 ·intro j l x hl hx;rw [key j l hl] at hx;simp [hasB] at hx
end Go.Proofs.YteagpjlgjfaclaaGreatDoor
namespace Go.Proofs.YteagpjlgjfaclaaGreatDoor
open Go.RowKit
theorem iq (x:Int) (w:World) :
  Calls Tryz.prog 88 #[.int .i64 x] w fun e w'=>e = .returned (.bool (aH x (-4) 4)) /\ w'=w:=by
 go_enter Tryz.func88,Tryz.ntmps88
 go_wp2_with (go_at_call 27;refine (bq _ _ _ _).mono ?_;rintro e w' ⟨rfl,rfl⟩)
 go_ret
 exact ⟨rfl,rfl⟩
end Go.Proofs.YteagpjlgjfaclaaGreatDoor
namespace Go.Proofs.YteagpjlgjfaclaaGreatDoor
open Go.RowKit
theorem y9 (x:Int) (w:World) :
  Calls Tryz.prog 159 #[.int .i64 x] w fun e w'=>e = .returned (.bool (aH x (-4) 4)) /\ w'=w:=by
 by_cases h1 : -4 <= x
 ·by_cases h2:x <= 4
  ·have Hr:Hid (aH x (-4) 4=true):=sa h1 h2
   go_enter Tryz.func159,Tryz.ntmps159
   go_wp2
   go_ret
   exact ⟨by rw [Hr.out];rfl,rfl⟩
  ·have Hr:Hid (aH x (-4) 4=false):=mh (.inr (by omega))
   have hd:decide (x <= 4)=false:=by simpa using h2
   go_enter Tryz.func159,Tryz.ntmps159
   go_wp2
   go_ret
   exact ⟨by rw [Hr.out];rfl,rfl⟩
 ·have Hr:Hid (aH x (-4) 4=false):=mh (.inl (by omega))
  have hd:decide (-4 <= x)=false:=by simpa using h1
  go_enter Tryz.func159,Tryz.ntmps159
  go_wp2
  go_ret
  exact ⟨by rw [Hr.out];rfl,rfl⟩
end Go.Proofs.YteagpjlgjfaclaaGreatDoor
namespace Go.Proofs.YteagpjlgjfaclaaGreatDoor
open Go.RowKit
def putC (w:World) (b k:Nat):List Value->World
 | []=>w
 | v::r=>putC (w.setCell ⟨b,k,none⟩ v) b (k+1) r
def bQ (C:Array Value) (k:Nat):List Value->Array Value
 | []=>C
 | v::r=>bQ (C.setIfInBounds k v) (k+1) r
theorem qp:∀ (L:List Value) (C:Array Value) (k:Nat),(bQ C k L).size=C.size
 | [],_,_=>rfl
 | _::r,C,k=>by rw [bQ,qp r];simp
theorem pF:∀ (L:List Value) (C:Array Value) (k i:Nat),k+L.length <= C.size->(bQ C k L)[i]?=if k <= i /\ i < k+L.length then L[i - k]? else C[i]?
 | [],C,k,i,_=>by rw [if_neg (by simp)];rfl
 | v::r,C,k,i,h=>by
  simp only [List.length_cons] at h
  rw [bQ,pF r _ _ _ (by simp;omega)]
  by_cases h1:k+1 <= i /\ i < k+1+r.length
  ·rw [if_pos h1,if_pos (by simp only [List.length_cons];omega)]
   obtain ⟨j,hj⟩:∃ j,i - k=j+1:=⟨i - k - 1,by omega⟩
   rw [hj,List.getElem?_cons_succ]
   congr 1
   omega
  ·rw [if_neg h1]
   by_cases e:k=i
   ·subst e
    rw [if_pos (by simp only [List.length_cons];omega),Array.getElem?_setIfInBounds_self_of_lt (by omega)]
    simp
   ·rw [if_neg (by simp only [List.length_cons];omega),Array.getElem?_setIfInBounds_ne e]
theorem pT {L:List Value} {C:Array Value} (h:L.length=C.size):bQ C 0 L=L.toArray:=by
 apply Array.ext_getElem?
 intro i
 rw [pF _ _ _ _ (by omega)]
 by_cases hi:i < L.length
 ·rw [if_pos (by omega)];simp
 ·rw [if_neg (by omega),Array.getElem?_eq_none (by omega),Array.getElem?_eq_none (by simp;omega)]
theorem aq.bY {b:Nat}:∀ (L:List Value) {C:Array Value} {w:World} (k:Nat),aq w b C->k+L.length <= C.size->aq (putC w b k L) b (bQ C k L)
 | [],_,_,_,h,_=>h
 | v::r,C,w,k,h,hk=>by
  simp only [List.length_cons] at hk
  exact aq.bY r (k+1) (h.set k (by omega) v) (by simp;omega)
theorem aq.putC {w:World} {b:Nat} {C:Array Value} (h:aq w b C) (L:List Value) (hl:L.length=C.size):aq (putC w b 0 L) b L.toArray:=by
 rw [<- pT hl]
 exact aq.bY L 0 h (by omega)
theorem aq.aT {b c:Nat} {C:Array Value} (hc:c≠b):∀ (L:List Value) {w:World} (k:Nat),aq w b C->aq (Go.Proofs.YteagpjlgjfaclaaGreatDoor.putC w c k L) b C
 | [],_,_,h=>h
 | v::r,_,k,h=>aq.aT hc r (k+1) (h.far hc v)
theorem aa.putC {a:World} {b:Nat} (hp:a.heap.size <= b):∀ (L:List Value) {w:World} (k:Nat),aa a w->aa a (Go.Proofs.YteagpjlgjfaclaaGreatDoor.putC w b k L)
 | [],_,_,h=>h
 | v::r,_,k,h=>aa.putC hp r (k+1) (h.setCell hp v)
end Go.Proofs.YteagpjlgjfaclaaGreatDoor
namespace Go.Proofs.YteagpjlgjfaclaaGreatDoor
open Go.RowKit
def cm {α:Type} (sz:Nat) (c:α->Array Value) (w:World) (a:Option Addr) (xs:List α):Prop :=
 xs=[]∨∃ b off,a=some ⟨b,off,none⟩ /\ b < w.heap.size /\ ∀ i x,xs[i]?=some x->∀ k,k < sz->w.cell? ⟨b,off+i*sz+k,none⟩=(c x)[k]?
theorem cm.keeps {α:Type} {sz:Nat} {c:α->Array Value} {w w':World} {a:Option Addr} {xs:List α} (h:cm sz c w a xs) (k:aa w w'):cm sz c w' a xs:=by
 rcases h with h | ⟨b,off,rfl,hb,h⟩
 ·exact .inl h
 ·exact .inr ⟨b,off,rfl,Nat.lt_of_lt_of_le hb k.size,fun i x hx j hj=>(k.cells _ _ hb).trans (h i x hx j hj)⟩
theorem cm.at {α:Type} {sz:Nat} {c:α->Array Value} {w:World} {a:Option Addr} {xs:List α} (h:cm sz c w a xs) {i:Nat} {x:α} (hx:xs[i]?=some x) (h0:0 < sz) :
  ∃ b off,a=some ⟨b,off,none⟩ /\ (∀ w',aa w w'->w'.cell? ⟨b,off+i*sz,none⟩=(c x)[0]?) /\ ∀ w',aa w w'->∀ k,k < sz->w'.cell? ⟨b,off+i*sz+k,none⟩=(c x)[k]?:=by
 rcases h with rfl | ⟨b,off,rfl,hb,h⟩
 ·simp at hx
 ·exact ⟨b,off,rfl,fun w' k=>(k.cells _ _ hb).trans (h i x hx 0 h0),fun w' k j hj=>(k.cells _ _ hb).trans (h i x hx j hj)⟩
theorem cm.nil {α:Type} (sz:Nat) (c:α->Array Value) (w:World) (a:Option Addr):cm sz c w a [] := .inl rfl
theorem rG {P:Program} (t e:TypeId) (z:Value) (size bytes:Nat) (ht:P.underlying t=some (.slice e)) (hinfo:(P.info? e).map (fun i=>(i.zero,i.size,i.bytes))=some (some z,size,bytes))
  (n:Nat) (hbytes:bytes*n <= 281474976710656) (h63:n <= 9223372036854775807) :
  ∃ C:Array Value,C.size=n*size /\ ∀ w:World,(Instr.makeSlice t (.int .i64 (n:Int)) (.int .i64 (n:Int))).run P w = .ok (.slice (some ⟨w.heap.size,0,none⟩) n n) (w.alloc (.cells C e)):=by
 obtain ⟨i,hi,hzz⟩:=Option.map_eq_some_iff.1 hinfo
 simp only [Prod.mk.injEq] at hzz
 obtain ⟨hz,hs,hb⟩:=hzz
 refine ⟨madeCells z.cells (n*size),size_madeCells _ _,fun w => ?_⟩
 have hb':(i.bytes:Int)*(n:Int) <= 281474976710656:=by
  have h:((i.bytes*n:Nat):Int) <= 281474976710656:=by rw [hb];omega
  rwa [Int.natCast_mul] at h
 have hr:=run_make (P:=P) w t e i z ht hi hz .i64 .i64 n n (by omega) (Int.le_refl _) hb' (by omega)
 simp only [Int.toNat_natCast,hs] at hr
 exact hr
end Go.Proofs.YteagpjlgjfaclaaGreatDoor
namespace Go.Proofs.YteagpjlgjfaclaaGreatDoor
open Go.RowKit
structure Has (w:World) (b:Nat) (C:Array Value) (w':World):Prop where
 keeps:aa w w'
 box:aq w' b C
theorem Has.go {w:World} {b:Nat} {C:Array Value} {w1 w2:World} (h:Has w b C w1) (k:aa w1 w2):Has w b C w2:=⟨h.keeps.trans k,h.box.keeps k⟩
theorem Has.set {w:World} {b:Nat} {C:Array Value} {w1:World} (h:Has w b C w1) {r:Nat} (hr:w.heap.size <= r) (hb:r≠b) (k:Nat) (v:Value):Has w b C (w1.setCell ⟨r,k,none⟩ v):=⟨h.keeps.setCell hr v,h.box.far hb v⟩
theorem Has.put {w:World} {b:Nat} {C:Array Value} {w1:World} (h:Has w b C w1) {r:Nat} (hr:w.heap.size <= r) (hb:r≠b) (k:Nat) (L:List Value):Has w b C (putC w1 r k L):=⟨aa.putC hr L k h.keeps,aq.aT hb L k h.box⟩
end Go.Proofs.YteagpjlgjfaclaaGreatDoor
namespace Go.Proofs.YteagpjlgjfaclaaGreatDoor
open Go.RowKit
structure ab (g:Nat) (w w':World):Prop where
 os:w'.os=w.os
 tape:w'.tape=w.tape
 output:w'.output=w.output
 size:w.heap.size <= w'.heap.size
 block:∀ k,k < w.heap.size->k≠g->w'.heap[k]?=w.heap[k]?
theorem ab.of {g:Nat} {w w':World} (h:aa w w'):ab g w w':=⟨Below.os h,Below.tape h,Below.output h,Below.size h,fun k hk _=>Below.block h k hk⟩
theorem ab.refl (g:Nat) (w:World):ab g w w := .of (aa.refl w)
theorem ab.trans {g:Nat} {a b c:World} (h:ab g a b) (k:ab g b c):ab g a c :=
 ⟨k.os.trans h.os,k.tape.trans h.tape,k.output.trans h.output,Nat.le_trans h.size k.size,fun i hi hg=>(k.block i (Nat.lt_of_lt_of_le hi h.size) hg).trans (h.block i hi hg)⟩
theorem ab.alloc {g:Nat} {a b:World} (h:ab g a b) (o:Obj):ab g a (b.alloc o):=h.trans (.of ((aa.refl b).alloc o))
theorem ab.drew {g:Nat} {a b:World} (h:ab g a b):ab g a b.drew:=h.trans (.of (aa.refl b).drew)
theorem ab.drewN {g:Nat} {a b:World} (h:ab g a b) (n:Nat):ab g a (b.drewN n):=h.trans (.of ((aa.refl b).drewN n))
theorem ab.setCell {g:Nat} {a b:World} (h:ab g a b) (o:Nat) (v:Value):ab g a (b.setCell ⟨g,o,none⟩ v) :=
 h.trans ⟨rfl,rfl,rfl,by simp [World.setCell],fun k _ hg=>Below.heap_setCell _ _ _ _ hg⟩
theorem ab.aI {g:Nat} {a b:World} (h:ab g a b) {p:Addr} (hp:a.heap.size <= p.block) (v:Value):ab g a (b.setCell p v) :=
 ⟨h.os,h.tape,h.output,Nat.le_trans h.size (by simp [World.setCell]),fun k hk hg=>(Below.heap_setCell _ _ _ _ (by omega)).trans (h.block k hk hg)⟩
theorem ab.cells {g:Nat} {w w':World} (h:ab g w w'):∀ b o,b < w.heap.size->b≠g->w'.cell? ⟨b,o,none⟩=w.cell? ⟨b,o,none⟩ :=
 fun b _ hb hg=>World.cell?_of_block (w:=w) (h.block b hb hg)
theorem ab.has {g:Nat} {W:World} {b o:Nat} {v:Value} (hg:b≠g) (h:W.cell? ⟨b,o,none⟩=some v):∀ w',ab g W w'->w'.cell? ⟨b,o,none⟩=some v :=
 fun _ k=>(k.cells b o (World.block_lt_of_cell? W _ h) hg).trans h
theorem ab.keeps {g:Nat} {w0 w w':World} (h:ab g w w') (k:aa w0 w) (hg:w0.heap.size <= g):aa w0 w' :=
 Below.trans k ⟨h.os,h.tape,h.output,h.size,fun i hi=>h.block i (Nat.lt_of_lt_of_le hi k.size) (by omega)⟩
end Go.Proofs.YteagpjlgjfaclaaGreatDoor
namespace Go.Proofs.YteagpjlgjfaclaaGreatDoor
theorem own:ownKnob Tryz.prog.godebug=none:=by kernel_rfl
theorem laidOut:laidOutB Tryz.prog=true:=by kernel_rfl
end Go.Proofs.YteagpjlgjfaclaaGreatDoor
namespace Go.Proofs.YteagpjlgjfaclaaGreatDoor
open Go.RowKit
abbrev sh (q p:Int):Value := .agg #[.int .i64 q,.int .i64 p]
def okB (q p:Int):Bool:=aH p 1 40&&aH q 1 p
theorem j9 {q p:Int}:okB q p=true↔(1 <= p /\ p <= 40) /\ 1 <= q /\ q <= p:=by simp [okB,dq]
theorem oA (q p:Int) (w:World) :
  Calls Tryz.prog 94 #[sh q p] w fun e w'=>e = .returned (.bool (okB q p)) /\ w'=w.alloc (.cells #[.int .i64 q,.int .i64 p] 51):=by
 by_cases h1:1 <= p
 ·by_cases h2:p <= 40
  ·by_cases h3:1 <= q
   ·by_cases h4:q <= p
    ·have Hr:Hid (okB q p=true):=j9.2 ⟨⟨h1,h2⟩,h3,h4⟩
     go_enter Tryz.func94,Tryz.ntmps94
     go_wp2
     go_ret
     exact ⟨by rw [Hr.out];rfl,rfl⟩
    ·have Hr:Hid (okB q p=false):=by
      show _=_;rw [Bool.eq_false_iff];intro h;have:=j9.1 h;omega
     have hd:decide (q <= p)=false:=by simpa using h4
     go_enter Tryz.func94,Tryz.ntmps94
     go_wp2
     go_ret
     exact ⟨by rw [Hr.out];rfl,rfl⟩
   ·have Hr:Hid (okB q p=false):=by
     show _=_;rw [Bool.eq_false_iff];intro h;have:=j9.1 h;omega
    have hd:decide (1 <= q)=false:=by simpa using h3
    go_enter Tryz.func94,Tryz.ntmps94
    go_wp2
    go_ret
    exact ⟨by rw [Hr.out];rfl,rfl⟩
  ·have Hr:Hid (okB q p=false):=by
    show _=_;rw [Bool.eq_false_iff];intro h;have:=j9.1 h;omega
   have hd:decide (p <= 40)=false:=by simpa using h2
   go_enter Tryz.func94,Tryz.ntmps94
   go_wp2
   go_ret
   exact ⟨by rw [Hr.out];rfl,rfl⟩
 ·have Hr:Hid (okB q p=false):=by
   show _=_;rw [Bool.eq_false_iff];intro h;have:=j9.1 h;omega
  have hd:decide (1 <= p)=false:=by simpa using h1
  go_enter Tryz.func94,Tryz.ntmps94
  go_wp2
  go_ret
  exact ⟨by rw [Hr.out];rfl,rfl⟩
theorem ju (q p:Int) (w:World) :
  Calls Tryz.prog 72 #[sh q p] w fun e w'=>e = .returned (.bool (okB q p)) /\ w'=w.alloc (.cells #[.int .i64 q,.int .i64 p] 51):=by
 cases h1:aH p 1 40
 ·have Hr:Hid (okB q p=false):=by show _=_;simp [okB,h1]
  go_enter Tryz.func72,Tryz.ntmps72
  go_wp2_with (go_at_call 27;refine (bq _ _ _ _).mono ?_;rintro e w' ⟨rfl,rfl⟩)
  go_ret
  exact ⟨by rw [Hr.out];rfl,rfl⟩
 ·have Hr:Hid (okB q p=aH q 1 p):=by show _=_;simp [okB,h1]
  go_enter Tryz.func72,Tryz.ntmps72
  go_wp2_with (go_at_call 27;refine (bq _ _ _ _).mono ?_;rintro e w' ⟨rfl,rfl⟩)
  go_ret
  exact ⟨by rw [Hr.out];rfl,rfl⟩
theorem uC (q p:Int) (w:World) :
  Calls Tryz.prog 72 #[sh q p] w fun e w'=>e = .returned (.bool (okB q p)) /\ aa w w' :=
 (ju q p w).mono (by rintro e w' ⟨rfl,rfl⟩;exact ⟨rfl,(aa.refl _).alloc _⟩)
end Go.Proofs.YteagpjlgjfaclaaGreatDoor
