/-
  The program's locks: what is right of them, chains, owners.
  Parts of time fit in whatever order they stand.
  Drawn systems: a system of one's own beside the cursor.
  Calls: which are right, and the walk of FnExactCallOk, over
-/
import Derived.Test.YteagpjlgjfaclaaGreatDoorSysAwake
import Derived.Test.YteagpjlgjfaclaaGreatDoorLockSpec3
import Derived.Test.YteagpjlgjfaclaaGreatDoorSysCopy
import Derived.Test.YteagpjlgjfaclaaGreatDoorSysLaws
import Derived.Test.YteagpjlgjfaclaaGreatDoorDrawTask2
import Derived.Test.YteagpjlgjfaclaaGreatDoorFrame
import Derived.Test.YteagpjlgjfaclaaGreatDoorErrAs
namespace Go.Proofs.YteagpjlgjfaclaaGreatDoor
set_option maxRecDepth 100000
open Go.RowKit
variable {p:Bool}
attribute [local go_sem] Keeps.refl Keeps.alloc Keeps.drew Keeps.drewN
theorem qjJ {l:Lk} {k:Nat} {x:Int} (hx:l.waits[k]?=some x) (h:inB x 1 1000=false):qbk l=false:=by
 unfold qbk
 have:l.waits.all (fun x=>inB x 1 1000)=false:=by
  rw [List.all_eq_false]
  exact ⟨x,List.mem_of_getElem? hx,by rw [h];simp⟩
 rw [this];rfl
theorem qjK {l:Lk} (H:∀ (j:Nat) (x:Int),l.waits[j]?=some x->inB x 1 1000=true):qbk l=(inB l.owner 0 1000&&(!(l.owner==0)||l.waits.length==0)):=by
 unfold qbk
 have:l.waits.all (fun x=>inB x 1 1000)=true:=by
  rw [List.all_eq_true]
  intro x hx
  obtain ⟨j,hj,rfl⟩:=List.mem_iff_getElem.1 hx
  exact H j _ (List.getElem?_eq_getElem hj)
 rw [this];rfl
set_option maxHeartbeats 2000000 in
theorem qjL (o:Int) (a:Option Addr) (cap:Nat) (xs:List Int) (w:World) (hl:xs.length <= maxLen) (hs:Ns w a xs) :
  Calls Tryz.prog 160 #[.agg #[.int .i64 o,.slice a xs.length cap]] w fun e w'=>e = .returned (.bool (qbk ⟨o,xs⟩)) /\ Keeps w w':=by
 unfold maxLen at hl
 generalize hn:xs.length=n at hl
 have Hn:Hid (xs.length=n):=hn
 clear hn
 go_enter Tryz.func160,Tryz.ntmps160
 go_wp2
 go_loopw [8] (fun i wr=>∃ k:Nat,k <= n /\ i = .int .i64 k /\ wr=w.alloc (.cells #[.int .i64 o,.slice a n cap] 37) /\ Hid (∀ (j:Nat) (y:Int),j < k->xs[j]?=some y->inB y 1 1000=true)) (fun i _=>n - (intOf i).toNat)
 case atStart=>exact ⟨0,Nat.zero_le _,rfl,rfl,fun j y hj=>by omega⟩
 case round =>
  obtain ⟨k,hk,rfl,rfl,H⟩:=hrel
  by_cases hlt:k < n
  ·obtain ⟨y,hy⟩:=qal (xs:=xs) (k:=k) (by rw [Hn.out];exact hlt)
   obtain ⟨b,off,rfl,r0⟩:=hs.at hy
   have hlt':(k:Int) < (n:Int):=by omega
   have Hy:Hid (xs[k]?=some y):=hy
   clear hs hy
   cases hq:inB y 1 1000
   ·have Hr:Hid (qbk ⟨o,xs⟩=false):=qjJ (l:=⟨o,xs⟩) Hy.out hq
    go_wp2_with (go_at_call 105;refine (qaN _ _ _ _).mono ?_;rintro e w' ⟨rfl,hw'⟩;have hw2:=hw'.symm;subst hw2;rw [hq])
    go_ret
    exact ⟨by rw [Hr.out];rfl,(Keeps.refl _).alloc _⟩
   ·go_wp2_with (go_at_call 105;refine (qaN _ _ _ _).mono ?_;rintro e w' ⟨rfl,hw'⟩;have hw2:=hw'.symm;subst hw2;rw [hq])
    exact ⟨⟨k+1,by omega,by go_num,by first | rfl | trivial,fun j s hj hs=>by
     by_cases e:j=k
     ·subst e;rw [Hy.out] at hs;cases hs;exact hq
     ·exact H.out j s (by omega) hs⟩,by simp only [intOf];omega⟩
  ·have Hr:Hid (qbk ⟨o,xs⟩=(inB o 0 1000&&(!(o==0)||n==0))):=by
    show _=_
    rw [qjK (l:=⟨o,xs⟩) fun j y hy=>H.out j y (by have:=qaw hy;rw [Hn.out] at this;omega) hy]
    simp only [Hn.out]
   clear H
   cases hq:inB o 0 1000
   ·have Hz:Hid (qbk ⟨o,xs⟩=false):=by show _=_;rw [Hr.out,hq];rfl
    go_wp2_with (go_at_call 105;refine (qaN _ _ _ _).mono ?_;rintro e w' ⟨rfl,hw'⟩;have hw2:=hw'.symm;subst hw2;rw [hq])
    go_ret
    exact ⟨by rw [Hz.out];rfl,(Keeps.refl _).alloc _⟩
   ·have eq0:(o==0) = !(o != 0):=by simp [bne]
    cases h0:(o != 0)
    ·cases h1:((n:Int)==0)
     ·have Hz:Hid (qbk ⟨o,xs⟩=false):=by show _=_;rw [Hr.out,hq,eq0,h0];simp at h1 ⊢;omega
      go_wp2_with (go_at_call 105;refine (qaN _ _ _ _).mono ?_;rintro e w' ⟨rfl,hw'⟩;have hw2:=hw'.symm;subst hw2;rw [hq])
      go_ret
      exact ⟨by rw [Hz.out];rfl,(Keeps.refl _).alloc _⟩
     ·have Hz:Hid (qbk ⟨o,xs⟩=true):=by show _=_;rw [Hr.out,hq,eq0,h0];simp at h1 ⊢;omega
      go_wp2_with (go_at_call 105;refine (qaN _ _ _ _).mono ?_;rintro e w' ⟨rfl,hw'⟩;have hw2:=hw'.symm;subst hw2;rw [hq])
      go_ret
      exact ⟨by rw [Hz.out];rfl,(Keeps.refl _).alloc _⟩
    ·have Hz:Hid (qbk ⟨o,xs⟩=true):=by show _=_;rw [Hr.out,hq,eq0,h0];rfl
     go_wp2_with (go_at_call 105;refine (qaN _ _ _ _).mono ?_;rintro e w' ⟨rfl,hw'⟩;have hw2:=hw'.symm;subst hw2;rw [hq])
     go_ret
     exact ⟨by rw [Hz.out];rfl,(Keeps.refl _).alloc _⟩
def qcj (ls:List Lk):Bool:=ls.all qbk
theorem qjM {ls:List Lk} {k:Nat} {l:Lk} (hl:ls[k]?=some l) (h:qbk l=false):qcj ls=false:=by
 unfold qcj
 rw [List.all_eq_false]
 exact ⟨l,List.mem_of_getElem? hl,by rw [h];simp⟩
theorem qjN {ls:List Lk} (H:∀ (j:Nat) (l:Lk),ls[j]?=some l->qbk l=true):qcj ls=true:=by
 unfold qcj
 rw [List.all_eq_true]
 intro l hl
 obtain ⟨j,hj,rfl⟩:=List.mem_iff_getElem.1 hl
 exact H j _ (List.getElem?_eq_getElem hj)
set_option maxHeartbeats 2000000 in
theorem qjO (a:Option Addr) (cap:Nat) (ls:List Lk) (w:World) (hl:ls.length <= maxLen) (hs:Lks p w a ls) :
  Calls Tryz.prog 122 #[.slice a ls.length cap] w fun e w'=>e = .returned (.bool (qcj ls)) /\ Keeps w w':=by
 unfold maxLen at hl
 generalize hn:ls.length=n at hl
 have Hn:Hid (ls.length=n):=hn
 clear hn
 go_enter Tryz.func122,Tryz.ntmps122
 go_wp2
 go_loopw [7] (fun i wr=>∃ k:Nat,k <= n /\ i = .int .i64 k /\ Keeps w wr /\ Hid (∀ (j:Nat) (m:Lk),j < k->ls[j]?=some m->qbk m=true)) (fun i _=>n - (intOf i).toNat)
 case atStart=>exact ⟨0,Nat.zero_le _,rfl,Keeps.refl _,fun j y hj=>by omega⟩
 case round =>
  obtain ⟨k,hk,rfl,hK,H⟩:=hrel
  by_cases hlt:k < n
  ·obtain ⟨l,hl1⟩:=qal (xs:=ls) (k:=k) (by rw [Hn.out];exact hlt)
   obtain ⟨b,off,a',cap',rfl,r0,r1,hle,hns⟩:=hs.at hl1
   have hlt':(k:Int) < (n:Int):=by omega
   have Hl:Hid (ls[k]?=some l):=hl1
   have Hle:Hid (l.waits.length <= maxLen):=hle
   have N1:Hid (Ns w a' l.waits):=hns
   clear hs hl1 hle hns
   obtain ⟨q,Hq⟩:∃ q,Hid (qbk l=q):=⟨_,rfl⟩
   have C1:∀ o,Calls Tryz.prog 160 #[.agg #[.int .i64 l.owner,.slice a' l.waits.length cap']] (wr.alloc o) fun e w'=>e = .returned (.bool q) /\ Keeps (wr.alloc o) w':=fun o=>by
    have:=qjL l.owner a' cap' l.waits (wr.alloc o) Hle.out (N1.out.keeps (hK.alloc o))
    rwa [show (⟨l.owner,l.waits⟩:Lk)=l from rfl,Hq.out] at this
   have HC1:Hid (∀ o,Calls Tryz.prog 160 #[.agg #[.int .i64 l.owner,.slice a' l.waits.length cap']] (wr.alloc o) fun e w'=>e = .returned (.bool q) /\ Keeps (wr.alloc o) w'):=C1
   clear C1
   cases q
   ·have Hr:Hid (qcj ls=false):=qjM Hl.out Hq.out
    go_wp2_with (go_at_call 160;refine (HC1.out _).mono ?_;rintro e w1 ⟨rfl,k1⟩)
    go_ret
    exact ⟨by rw [Hr.out];rfl,(hK.alloc _).trans k1⟩
   ·go_wp2_with (go_at_call 160;refine (HC1.out _).mono ?_;rintro e w1 ⟨rfl,k1⟩)
    exact ⟨⟨k+1,by omega,by go_num,(hK.alloc _).trans k1,fun j s hj hs=>by
     by_cases e:j=k
     ·subst e;rw [Hl.out] at hs;cases hs;exact Hq.out
     ·exact H.out j s (by omega) hs⟩,by simp only [intOf];omega⟩
  ·have Hr:Hid (qcj ls=true):=qjN fun j m hm=>H.out j m (by have:=qaw hm;rw [Hn.out] at this;omega) hm
   go_wp2
   go_ret
   exact ⟨by rw [Hr.out];rfl,hK⟩
def qb2 (ls:List Lk):Bool:=ls.all fun l=>(qap ls (ls.length+1) l.owner).2
theorem qjP {ls:List Lk} {k:Nat} {l:Lk} (hl:ls[k]?=some l) (h:(qap ls (ls.length+1) l.owner).2=false):qb2 ls=false:=by
 unfold qb2
 rw [List.all_eq_false]
 exact ⟨l,List.mem_of_getElem? hl,by rw [h];simp⟩
theorem qjQ {ls:List Lk} (H:∀ (j:Nat) (l:Lk),ls[j]?=some l->(qap ls (ls.length+1) l.owner).2=true):qb2 ls=true:=by
 unfold qb2
 rw [List.all_eq_true]
 intro l hl
 obtain ⟨j,hj,rfl⟩:=List.mem_iff_getElem.1 hl
 exact H j _ (List.getElem?_eq_getElem hj)
set_option maxHeartbeats 2000000 in
theorem qjR (B:Nat) (a:Option Addr) (cap:Nat) (ls:List Lk) (w:World) (hl:ls.length <= 2097152) (hs:Lks p w a ls) (hm:MapI w B (qaP ls)) :
  Calls Tryz.prog 124 #[.slice a ls.length cap,.map (some B)] w fun e w'=>e = .returned (.bool (qb2 ls)) /\ Keeps w w':=by
 have HS:Hid (Lks p w a ls):=hs
 have CF:Hid (∀ no w',Keeps w w'->Calls Tryz.prog 76 #[.map (some B),.int .i64 no,.slice a ls.length cap] w' fun e w''=>∃ v,e = .returned (.tuple #[v,.bool (qap ls (ls.length+1) no).2]) /\ ((qap ls (ls.length+1) no).2=true->OwnN w'' w'.heap.size v (qap ls (ls.length+1) no).1) /\ Keeps w' w''):=fun no w' k=>qjI B a cap ls no w' hl (hs.keeps k) (hm.keeps k)
 clear hs hm
 have HE:Hid (∀ (k:Nat) (l:Lk),ls[k]?=some l->(qap ls (ls.length+1) l.owner).2=false->qb2 ls=false):=fun k l=>qjP
 have HO:Hid ((∀ (j:Nat) (l:Lk),ls[j]?=some l->(qap ls (ls.length+1) l.owner).2=true)->qb2 ls=true):=qjQ
 generalize hn:ls.length=n at *
 have Hn:Hid (ls.length=n):=hn
 clear hn
 go_enter Tryz.func124,Tryz.ntmps124
 go_wp2
 go_loopw [11] (fun i wr=>∃ k:Nat,k <= n /\ i = .int .i64 k /\ Keeps w wr /\ Hid (∀ (j:Nat) (m:Lk),j < k->ls[j]?=some m->(qap ls (n+1) m.owner).2=true)) (fun i _=>n - (intOf i).toNat)
 case atStart=>exact ⟨0,Nat.zero_le _,rfl,Keeps.refl _,fun j y hj=>by omega⟩
 case round =>
  obtain ⟨k,hk,rfl,hK,H⟩:=hrel
  by_cases hlt:k < n
  ·obtain ⟨l,hl1⟩:=qal (xs:=ls) (k:=k) (by rw [Hn.out];exact hlt)
   obtain ⟨b,off,a',cap',rfl,r0,r1,-,-⟩:=HS.out.at hl1
   have hlt':(k:Int) < (n:Int):=by omega
   have Hl:Hid (ls[k]?=some l):=hl1
   clear hl1
   obtain ⟨q,Hq⟩:∃ q,Hid ((qap ls (n+1) l.owner).2=q):=⟨_,rfl⟩
   have C1:Hid (∀ o,Calls Tryz.prog 76 #[.map (some B),.int .i64 l.owner,.slice (some ⟨b,off,none⟩) n cap] (wr.alloc o) fun e w'=>∃ v,e = .returned (.tuple #[v,.bool q]) /\ Keeps (wr.alloc o) w'):=fun o=>by
    refine (CF.out l.owner (wr.alloc o) (hK.alloc o)).mono ?_
    rintro e w' ⟨v,rfl,-,k'⟩
    rw [Hq.out]
    exact ⟨v,rfl,k'⟩
   cases q
   ·have Hr:Hid (qb2 ls=false):=HE.out k l Hl.out Hq.out
    go_wp2_with (go_at_call 76;refine (C1.out _).mono ?_;rintro e w1 ⟨v,rfl,k1⟩)
    go_ret
    exact ⟨by rw [Hr.out];rfl,(hK.alloc _).trans k1⟩
   ·go_wp2_with (go_at_call 76;refine (C1.out _).mono ?_;rintro e w1 ⟨v,rfl,k1⟩)
    exact ⟨⟨k+1,by omega,by go_num,(hK.alloc _).trans k1,fun j s hj hs=>by
     by_cases e:j=k
     ·subst e;rw [Hl.out] at hs;cases hs;exact Hq.out
     ·exact H.out j s (by omega) hs⟩,by simp only [intOf];omega⟩
  ·have Hr:Hid (qb2 ls=true):=HO.out fun j m hm=>H.out j m (by have:=qaw hm;rw [Hn.out] at this;omega) hm
   go_wp2
   go_ret
   exact ⟨by rw [Hr.out];rfl,hK⟩
theorem qjS (ls:List Lk):(decide (ls.length <= 5)&&(qcj ls&&(decide ((qaP ls).length=sumW ls)&&qb2 ls)))=qax ls:=qjY ls
set_option maxHeartbeats 2000000 in
theorem qjT (a:Option Addr) (cap:Nat) (ls:List Lk) (w:World) (hl:qaj ls <= 2097152) (hs:Lks p w a ls) :
  Calls Tryz.prog 75 #[.slice a ls.length cap] w fun e w'=>e = .returned (.bool (qax ls)) /\ Keeps w w':=by
 have hl0:ls.length <= 2097152:=by unfold qaj at hl;omega
 have E1:Hid (∀ w',Keeps w w'->Calls Tryz.prog 122 #[.slice a ls.length cap] w' fun e w''=>e = .returned (.bool (qcj ls)) /\ Keeps w' w''):=fun w' k=>qjO a cap ls w' (by unfold maxLen;omega) (hs.keeps k)
 have E2:Hid (∀ w',Keeps w w'->Calls Tryz.prog 42 #[.slice a ls.length cap] w' fun e w''=>e = .returned (.map (some w'.heap.size)) /\ MapI w'' w'.heap.size (qaP ls) /\ Keeps w' w''):=fun w' k=>qjH a cap ls w' hl (hs.keeps k)
 have E3:Hid (∀ w',Keeps w w'->Calls Tryz.prog 123 #[.slice a ls.length cap] w' fun e w''=>e = .returned (.int .i64 (sumW ls)) /\ Keeps w' w''):=fun w' k=>qjG a cap ls w' hl (hs.keeps k)
 have E4:Hid (∀ B w',Keeps w w'->MapI w' B (qaP ls)->Calls Tryz.prog 124 #[.slice a ls.length cap,.map (some B)] w' fun e w''=>e = .returned (.bool (qb2 ls)) /\ Keeps w' w''):=fun B w' k m=>qjR B a cap ls w' hl0 (hs.keeps k) m
 have HP:Hid ((decide (ls.length <= 5)&&(qcj ls&&(decide ((qaP ls).length=sumW ls)&&qb2 ls)))=qax ls):=qjS ls
 have Hsum:Hid (sumW ls <= 2097152):=by show _ <= _;unfold qaj at hl;omega
 have Hpl:Hid ((qaP ls).length <= sumW ls):=(qgu ls).1
 clear hl hs
 generalize hn:ls.length=n at *
 obtain ⟨g1,G1⟩:∃ g,Hid (qcj ls=g):=⟨_,rfl⟩
 obtain ⟨g2,G2⟩:∃ g,Hid (qb2 ls=g):=⟨_,rfl⟩
 obtain ⟨s,Hs⟩:∃ s,Hid (sumW ls=s):=⟨_,rfl⟩
 obtain ⟨m,Hm⟩:∃ m,Hid ((qaP ls).length=m):=⟨_,rfl⟩
 obtain ⟨E,HE⟩:∃ E,Hid (qaP ls=E):=⟨_,rfl⟩
 rw [G1.out] at E1
 rw [HE.out] at E2 E4
 rw [Hs.out] at E3 Hsum
 rw [G2.out] at E4
 rw [G1.out,G2.out,Hs.out,Hm.out] at HP
 have HmE:Hid (E.length=m):=by show _=_;rw [<- HE.out];exact Hm.out
 have hs0:s <= 2097152:=Hsum.out
 have hm0:m <= 2097152:=by have:=Hpl.out;rw [Hm.out,Hs.out] at this;omega
 clear hn Hpl
 by_cases h5:n <= 5
 ·have h5':decide ((5:Int) < (n:Int))=false:=by simp;omega
  have d5:decide (n <= 5)=true:=decide_eq_true h5
  cases g1
  ·have Hr:Hid (qax ls=false):=by show _=_;rw [<- HP.out,d5];rfl
   go_enter Tryz.func75,Tryz.ntmps75
   go_wp2_with (go_at_call 122;refine (E1.out _ (Keeps.refl _)).mono ?_;rintro e w1 ⟨rfl,k1⟩)
   go_ret
   exact ⟨by rw [Hr.out];rfl,k1⟩
  ·by_cases hms:m=s
   ·have Hr:Hid (qax ls=g2):=by show _=_;rw [<- HP.out,d5,decide_eq_true hms];rfl
    subst hms
    have hee:((m:Int)==(m:Int))=true:=by simp
    go_enter Tryz.func75,Tryz.ntmps75
    go_wp2_with (first
     | (go_at_call 122;refine (E1.out _ (Keeps.refl _)).mono ?_;rintro e w1 ⟨rfl,k1⟩)
     | (go_at_call 42;refine (E2.out _ k1).mono ?_;rintro e w2 ⟨rfl,m2,k2⟩;have K2:Keeps w w2:=k1.trans k2;have M2:Hid (MapI w2 w1.heap.size E):=m2;have hlen:∀ ty,(Builtin.len_ #[77] ty #[.map (some w1.heap.size)]).run Tryz.prog w2 = .ok (.int .i64 m) w2:=(fun ty=>by have h:=MapI.len m2 (P:=Tryz.prog) (t:=77) Tryz.underlying77 ty;rw [HmE.out] at h;exact h);clear m2)
     | (go_at_call 123;refine (E3.out _ K2).mono ?_;rintro e w3 ⟨rfl,k3⟩;have K3:Keeps w w3:=K2.trans k3)
     | (go_at_call 124;refine (E4.out _ _ K3 (M2.out.keeps k3)).mono ?_;rintro e w4 ⟨rfl,k4⟩))
    go_ret
    exact ⟨by rw [Hr.out];rfl,K3.trans k4⟩
   ·have Hr:Hid (qax ls=false):=by show _=_;rw [<- HP.out,d5,decide_eq_false hms];rfl
    have hne:((m:Int)==(s:Int))=false:=by simp;omega
    go_enter Tryz.func75,Tryz.ntmps75
    go_wp2_with (first
     | (go_at_call 122;refine (E1.out _ (Keeps.refl _)).mono ?_;rintro e w1 ⟨rfl,k1⟩)
     | (go_at_call 42;refine (E2.out _ k1).mono ?_;rintro e w2 ⟨rfl,m2,k2⟩;have K2:Keeps w w2:=k1.trans k2;have M2:Hid (MapI w2 w1.heap.size E):=m2;have hlen:∀ ty,(Builtin.len_ #[77] ty #[.map (some w1.heap.size)]).run Tryz.prog w2 = .ok (.int .i64 m) w2:=(fun ty=>by have h:=MapI.len m2 (P:=Tryz.prog) (t:=77) Tryz.underlying77 ty;rw [HmE.out] at h;exact h);clear m2)
     | (go_at_call 123;refine (E3.out _ K2).mono ?_;rintro e w3 ⟨rfl,k3⟩;have K3:Keeps w w3:=K2.trans k3))
    go_ret
    exact ⟨by rw [Hr.out];rfl,K3⟩
 ·have h5':(5:Int) < (n:Int):=by omega
  have Hr:Hid (qax ls=false):=by show _=_;rw [<- HP.out,decide_eq_false h5];rfl
  go_enter Tryz.func75,Tryz.ntmps75
  go_wp2
  go_ret
  exact ⟨by rw [Hr.out];rfl,Keeps.refl _⟩
end Go.Proofs.YteagpjlgjfaclaaGreatDoor
namespace Go.Proofs.YteagpjlgjfaclaaGreatDoor
set_option maxRecDepth 100000
open Go.RowKit
def lowF (a b:Int):Int × Int:=(a / (Int.gcd a b:Int),b / (Int.gcd a b:Int))
theorem qjk {k:Int} (hk:0 < k) (a b:Int):lowF (k*a) (k*b)=lowF a b:=by
 unfold lowF
 have e:((Int.gcd (k*a) (k*b):Nat):Int)=k*(Int.gcd a b:Int):=by
  rw [Int.gcd_mul_left,Int.natCast_mul]
  congr 1
  omega
 rw [e,Int.mul_ediv_mul_of_pos _ _ hk,Int.mul_ediv_mul_of_pos _ _ hk]
theorem qgf (a b:Int) (y:Int × Int):Plain.qa8 (lowF a b) y=lowF (a*y.2+y.1*b) (b*y.2):=by
 have h:∀ p q:Int,Plain.qa8 (p,q) y=lowF (p*y.2+y.1*q) (q*y.2):=fun p q=>rfl
 by_cases h0:Int.gcd a b=0
 ·obtain ⟨rfl,rfl⟩:=Int.gcd_eq_zero_iff.1 h0
  show Plain.qa8 (0 / (Int.gcd 0 0:Int),0 / (Int.gcd 0 0:Int)) y=_
  rw [h]
  simp
 have hg:0 < (Int.gcd a b:Int):=by omega
 have ha:(Int.gcd a b:Int)*(a / (Int.gcd a b:Int))=a:=Int.mul_ediv_cancel' (Int.gcd_dvd_left ..)
 have hb:(Int.gcd a b:Int)*(b / (Int.gcd a b:Int))=b:=Int.mul_ediv_cancel' (Int.gcd_dvd_right ..)
 show Plain.qa8 (a / (Int.gcd a b:Int),b / (Int.gcd a b:Int)) y=_
 rw [h]
 clear h0
 generalize (Int.gcd a b:Int)=g at *
 generalize a / g=a' at *
 generalize b / g=b' at *
 subst ha hb
 rw [<- qjk hg]
 congr 1
 ·rw [Int.mul_add]
  congr 1
  ·exact (Int.mul_assoc ..).symm
  ·rw [Int.mul_left_comm]
 ·exact (Int.mul_assoc ..).symm
theorem qjl (s x y:Int × Int):Plain.qa8 (Plain.qa8 s x) y=Plain.qa8 (Plain.qa8 s y) x:=by
 have e:∀ x:Int × Int,Plain.qa8 s x=lowF (s.1*x.2+x.1*s.2) (s.2*x.2):=fun x=>rfl
 rw [e x,e y,qgf,qgf]
 congr 1
 ·simp only [Int.add_mul]
  ac_rfl
 ·exact Int.mul_right_comm ..
theorem qjm {xs ys:List (Int × Int)} (h:xs.Perm ys):Plain.sumI xs=Plain.sumI ys:=by
 unfold Plain.sumI
 exact h.foldl_eq' (fun x _ y _ s=>qjl s x y) _
theorem qjn {xs ys:List (Int × Int)} (h:xs.Perm ys):qaL xs=qaL ys:=by
 unfold qaL
 rw [qjm h]
 congr 1
 unfold qbq
 rw [h.length_eq]
 congr 1
 unfold qa9
 rw [Bool.eq_iff_iff,List.all_eq_true,List.all_eq_true]
 exact ⟨fun H x hx=>H x (h.mem_iff.2 hx),fun H x hx=>H x (h.mem_iff.1 hx)⟩
theorem qgg (t:Tsk):∀ ts:List Tsk,(ins t ts).Perm (t::ts)
 | []=>List.Perm.refl _
 | x::r=>by
  unfold ins
  split
  ·exact List.Perm.refl _
  ·exact ((qgg t r).cons x).trans (List.Perm.swap t x r)
theorem qjo {s:Sy} {t:Tsk} {cpu:Int} (h:qaI cpu t=true):(qan { s with tasks:=ins t s.tasks } cpu).Perm (qan s cpu++[(t.q,t.p)]):=by
 unfold qan
 have h1:((ins t s.tasks).filter (qaI cpu)).Perm (t::s.tasks.filter (qaI cpu)):=by
  have:=(qgg t s.tasks).filter (qaI cpu)
  rwa [List.filter_cons_of_pos h] at this
 refine (((h1.map _).append_right _).trans ?_)
 rw [List.map_cons,List.cons_append]
 exact (List.perm_append_singleton _ _).symm
end Go.Proofs.YteagpjlgjfaclaaGreatDoor
namespace Go.Proofs.YteagpjlgjfaclaaGreatDoor
set_option maxRecDepth 100000
open Go.RowKit
attribute [local go_sem] Keeps.refl Keeps.alloc Keeps.drew Keeps.drewN
theorem OwnS.butG {g:Nat} {w w':World} {lo:Nat} {v:Sv} {vs:List Lv} {s:Sy} (h:OwnS w lo v vs s) (k:KeepsBut g w w') (hg:g < lo):OwnS w' lo v vs s :=
 h.aside k.size fun i b hb=>k.block b (h.blkLt hb).2 (by have:=(h.blkLt hb).1;omega)
def Few (c:Cl):Prop:=c.kind <= 3->1 <= c.no /\ c.no <= 12
def qh8 (g:Nat) (w:World) (e:Ending) (w':World):Prop:=∃ z:Int,e = .returned (.int .i64 z) /\ Cur w' g /\ KeepsBut g w w'
def qh9 (g:Nat) (w:World) (e:Ending) (w':World):Prop:=∃ c:Cl,e = .returned (ck c) /\ Few c /\ Cur w' g /\ KeepsBut g w w'
theorem KeepsBut.putN {g:Nat} {a:World} {b:Nat} (hb:a.heap.size <= b):∀ (L:List Value) {w:World} (k:Nat),KeepsBut g a w->KeepsBut g a (Go.Proofs.YteagpjlgjfaclaaGreatDoor.putC w b k L)
 | [],_,_,h=>h
 | u::r,_,k,h=>KeepsBut.putN hb r (k+1) (h.setNew (p:=⟨b,k,none⟩) hb u)
theorem Cur.putC {g b:Nat} (hb:g < b):∀ (L:List Value) {w:World} (k:Nat),Cur w g->Cur (Go.Proofs.YteagpjlgjfaclaaGreatDoor.putC w b k L) g
 | [],_,_,h=>h
 | u::r,_,k,h=>Cur.putC hb r (k+1) (h.setNew hb k u)
theorem OwnS.lockAt {w:World} {lo:Nat} {v:Sv} {vs:List Lv} {s:Sy} (h:OwnS w lo v vs s) {j:Nat} {l:Lk} (hl:s.locks[j]?=some l):∃ lb,v.l.a=some ⟨lb,0,none⟩ /\ w.cell? ⟨lb,j*2,none⟩=some (.int .i64 l.owner) /\ lo <= lb /\ lb < w.heap.size:=by
 have hj:=qaw hl
 have hv:=h.l.len
 obtain ⟨x,hx⟩:=qal (xs:=vs) (k:=j) (by rw [hv];exact hj)
 obtain ⟨b,cap,e,-,-,-⟩:=h.l.own.some qbj (by omega)
 have O:=h.l.own
 rw [e] at O
 have h1:=O.cellAt qbj (i:=j) (k:=0) hx (by omega)
 have h2:=O.ltb b rfl
 have h3:=(h.l.rows j x l hx hl).1
 simp only [Rw.val,Value.slice.injEq] at e
 exact ⟨b,e.1,by rw [<- h3];simpa using h1,h2.1,h2.2⟩
abbrev cc0:Array Value:=#[.int .i64 0,.int .i64 0,.int .i64 0,.int .i64 0,.int .i64 0]
theorem qa5 {g rb:Nat} {w Z wn:World} (R:Blk Z rb cc0) (hg:g < w.heap.size) (hr:w.heap.size <= rb) (kZ:KeepsBut g w Z) (hc:Cur wn g) (k:KeepsBut g Z wn) (c:Cl) :
  Blk (putC wn rb 0 (cc c).toList) rb (cc c) /\ Cur (putC wn rb 0 (cc c).toList) g /\ KeepsBut g w (putC wn rb 0 (cc c).toList) :=
 ⟨(R.but k (by omega)).putC (cc c).toList rfl,Cur.putC (by omega) _ 0 hc,KeepsBut.putN hr _ 0 (kZ.trans k)⟩
end Go.Proofs.YteagpjlgjfaclaaGreatDoor
namespace Go.Proofs.YteagpjlgjfaclaaGreatDoor
set_option maxRecDepth 100000
open Go.RowKit
attribute [local go_sem] Keeps.refl Keeps.alloc Keeps.drew Keeps.drewN
attribute [local go_sem high] qfQ
set_option maxHeartbeats 2000000 in
theorem qij (c:Cl) (w:World) :
  Calls Tryz.prog 38 #[ck c] w fun e w'=>e = .returned (.bool (qaC c)) /\ Keeps w w':=by
 have kW:Keeps w (w.alloc (.cells (cc c) 32)):=(Keeps.refl _).alloc _
 have r1:=blkR w (cc c) 32
 cases b:inB c.kind 1 11
 ·have Hr:Hid (qaC c=false):=by show _=_;simp [qaC,b]
  go_enter Tryz.func38,Tryz.ntmps38
  go_wp2_with fail
  generalize w.alloc (.cells (cc c) 32)=W at *
  refine wp_region_held_drew (S:=(fun w'=>Keeps W w')) (by kernel_rfl) ?_ (fun hHeld => ?_)
  ·exact (Keeps.refl W).drew
  refine Plan.go [0,1] ?_
  iterate 2 (refine qac (by simp only [qab];rfl) (by kernel_rfl) (by exact fun _ _ _ h=>h) (by rfl) (by assumption) (fun w _=>by go_simp;try (with_reducible rfl)) ?_;try simp only [qaa])
  refine Plan.nil ?_
  refine qad 2 (by kernel_rfl) (by simp only [qab];rfl) (fun K hK => ?_)
  go_simp
  first
   | (go_at_call 27;refine (qag _ _ _ _).mono ?_;rintro e w' ⟨rfl,hw1⟩;have hw2:=hw1.symm;subst hw2;rw [b])
   | (go_at_call 81;refine (qeU c _).mono ?_;rintro e w1 ⟨rfl,k1⟩)
  try go_wp2_with fail
  refine hK.out _ _ ?_ (fun hHeld => ?_)
  ·first | assumption | exact Keeps.trans (by assumption) (by assumption)
  clear hK K
  try simp only [qaa]
  refine qar 3 (v := ?_) (by simp only [qab];rfl) (by kernel_rfl) (by exact fun _ _ _ h=>h) (by rfl) (by assumption) ?_ ?_
  rotate_left
  ·(intro w _;go_simp;try (with_reducible rfl))
  try simp only [qaa]
  refine Plan.go [4,5,6,7] ?_
  iterate 4 (refine qaA (by simp only [qab];rfl) (by kernel_rfl) (by exact fun _ _ _ h=>h) (by rfl) (by assumption) ?_;try simp only [qaa])
  refine Plan.nil ?_
  refine Plan.go [8,9] ?_
  iterate 2 (refine qac (by simp only [qab];rfl) (by kernel_rfl) (by exact fun _ _ _ h=>h) (by rfl) (by assumption) (fun w _=>by go_simp;try (with_reducible rfl)) ?_;try simp only [qaa])
  refine Plan.nil ?_
  refine wpAnyH_done (by kernel_rfl) ?_ _
  go_wp2
  go_ret
  exact ⟨by rw [Hr.out];rfl,kW.trans (by assumption)⟩
 ·have Hr:Hid (qaC c=eqC c (qaB c)):=by show _=_;simp [qaC,b]
  go_enter Tryz.func38,Tryz.ntmps38
  go_wp2_with fail
  generalize w.alloc (.cells (cc c) 32)=W at *
  refine wp_region_held_drew (S:=(fun w'=>Keeps W w')) (by kernel_rfl) ?_ (fun hHeld => ?_)
  ·exact (Keeps.refl W).drew
  refine Plan.go [0,1] ?_
  iterate 2 (refine qac (by simp only [qab];rfl) (by kernel_rfl) (by exact fun _ _ _ h=>h) (by rfl) (by assumption) (fun w _=>by go_simp;try (with_reducible rfl)) ?_;try simp only [qaa])
  refine Plan.nil ?_
  refine qad 2 (by kernel_rfl) (by simp only [qab];rfl) (fun K hK => ?_)
  go_simp
  first
   | (go_at_call 27;refine (qag _ _ _ _).mono ?_;rintro e w' ⟨rfl,hw1⟩;have hw2:=hw1.symm;subst hw2;rw [b])
   | (go_at_call 81;refine (qeU c _).mono ?_;rintro e w1 ⟨rfl,k1⟩)
  try go_wp2_with fail
  refine hK.out _ _ ?_ (fun hHeld => ?_)
  ·first | assumption | exact Keeps.trans (by assumption) (by assumption)
  clear hK K
  try simp only [qaa]
  refine Plan.go [3,4,5] ?_
  iterate 3 (refine qac (by simp only [qab];rfl) (by kernel_rfl) (by exact fun _ _ _ h=>h) (by rfl) (by assumption) (fun w _=>by go_simp;try (with_reducible rfl)) ?_;try simp only [qaa])
  refine Plan.nil ?_
  refine qad 6 (by kernel_rfl) (by simp only [qab];rfl) (fun K hK => ?_)
  go_simp
  first
   | (go_at_call 27;refine (qag _ _ _ _).mono ?_;rintro e w' ⟨rfl,hw1⟩;have hw2:=hw1.symm;subst hw2;rw [b])
   | (go_at_call 81;refine (qeU c _).mono ?_;rintro e w1 ⟨rfl,k1⟩)
  try go_wp2_with fail
  refine hK.out _ _ ?_ (fun hHeld => ?_)
  ·first | assumption | exact Keeps.trans (by assumption) (by assumption)
  clear hK K
  try simp only [qaa]
  refine Plan.go [7,8,9] ?_
  iterate 3 (refine qac (by simp only [qab];rfl) (by kernel_rfl) (by exact fun _ _ _ h=>h) (by rfl) (by assumption) (fun w _=>by go_simp;try (with_reducible rfl)) ?_;try simp only [qaa])
  refine Plan.nil ?_
  refine wpAnyH_done (by kernel_rfl) ?_ _
  go_wp2
  go_ret
  exact ⟨by rw [Hr.out];rfl,kW.trans (by assumption)⟩
def qik:Prop:=∀ (c:Cl) (w:World),Calls Tryz.prog 35 #[ck c] w fun e w'=>e = .returned (.bool (qaC c)) /\ Keeps w w'
end Go.Proofs.YteagpjlgjfaclaaGreatDoor
