/-
  Rows of locks: the laws' own helpers over them.
  Locks: contracts of the model's functions that only read.
  Locks: contracts of the model's chains, and of what is righ
-/
import Derived.Test.YteagpjlgjfaclaaGreatDoorFixPure
import Derived.Test.YteagpjlgjfaclaaGreatDoorPlain1
import Derived.Deep.RegionHeld3
namespace Go.Proofs.YteagpjlgjfaclaaGreatDoor
set_option maxRecDepth 100000
open Go.RowKit
variable {p p':Bool}
attribute [local go_sem] aa.refl aa.alloc aa.drew aa.drewN
def bD:List Lk->Nat
 | []=>0
 | l::r=>l.waits.length+bD r
theorem zn (xs ys:List Lk):bD (xs++ys)=bD xs+bD ys:=by
 induction xs with
 | nil=>simp [bD]
 | cons x r ih=>simp only [List.cons_append,bD,ih];omega
theorem pL {ls:List Lk} {k:Nat} {l:Lk} (h:ls[k]?=some l):bD (ls.take (k+1))=bD (ls.take k)+l.waits.length:=by
 rw [List.take_add_one,h,zn]
 simp [bD]
theorem tY (ls:List Lk) (k:Nat):bD (ls.take k) <= bD ls:=by
 have:=zn (ls.take k) (ls.drop k)
 rw [List.take_append_drop] at this
 omega
theorem lh {ls:List Lk} {k:Nat} {l:Lk} (h:ls[k]?=some l):l.waits.length <= bD ls:=by
 have:=pL h
 have:=tY ls (k+1)
 omega
def bR (ls:List Lk):Nat:=ls.length+bD ls
variable {p:Bool}
attribute [local go_sem] aa.refl aa.alloc aa.drew aa.drewN
theorem Is {xs:List Int} {x:Int} {k:Nat} {y:Int} (hy:xs[k]?=some y) (h:(y==x)=true):hasB xs x=true:=by
 rw [j8]
 have:=List.mem_of_getElem? hy
 simp at h
 rw [<- h];exact this
theorem It {xs:List Int} {x:Int} (h:∀ (j:Nat) (y:Int),xs[j]?=some y->(y==x)=false):hasB xs x=false:=by
 rw [ur]
 intro hm
 obtain ⟨j,hj,e⟩:=List.mem_iff_getElem.1 hm
 have:=h j _ (List.getElem?_eq_getElem hj)
 simp [e] at this
set_option maxHeartbeats 1000000 in
theorem nW (a:Option Addr) (cap:Nat) (xs:List Int) (x:Int) (w:World) (hl:xs.length <= maxLen) (hs:Ns w a xs) :
  Calls Tryz.prog 147 #[.slice a xs.length cap,.int .i64 x] w fun e w'=>e = .returned (.bool (hasB xs x)) /\ aa w w':=by
 unfold maxLen at hl
 generalize hn:xs.length=n at hl
 have Hn:Hid (xs.length=n):=hn
 clear hn
 go_enter Tryz.func147,Tryz.ntmps147
 go_wp2
 go_loopw [5] (fun i wr=>∃ k:Nat,k <= n /\ i = .int .i64 k /\ aa w wr /\ Hid (∀ (j:Nat) (y:Int),j < k->xs[j]?=some y->(y==x)=false)) (fun i _=>n - (intOf i).toNat)
 case atStart=>exact ⟨0,Nat.zero_le _,rfl,aa.refl _,fun j y hj=>by omega⟩
 case round =>
  obtain ⟨k,hk,rfl,hK,H⟩:=hrel
  by_cases hlt:k < n
  ·obtain ⟨y,hy⟩:=cd (xs:=xs) (k:=k) (by rw [Hn.out];exact hlt)
   obtain ⟨b,off,rfl,r0⟩:=hs.at hy
   have hlt':(k:Int) < (n:Int):=by omega
   have Hy:Hid (xs[k]?=some y):=hy
   clear hs hy
   cases hq:(y==x)
   ·go_wp2
    exact ⟨⟨k+1,by omega,by go_num,hK,fun j s hj hs=>by
     by_cases e:j=k
     ·subst e;rw [Hy.out] at hs;cases hs;exact hq
     ·exact H.out j s (by omega) hs⟩,by simp only [intOf];omega⟩
   ·have Hr:Hid (hasB xs x=true):=Is Hy.out hq
    go_wp2
    go_ret
    exact ⟨by rw [Hr.out];rfl,hK⟩
  ·have Hr:Hid (hasB xs x=false):=It fun j y hy=>H.out j y (by have:=cZ hy;rw [Hn.out] at this;omega) hy
   go_wp2
   go_ret
   exact ⟨by rw [Hr.out];rfl,hK⟩
set_option maxHeartbeats 1000000 in
theorem rM (a:Option Addr) (cap:Nat) (ls:List Lk) (no:Int) (w:World) (hl:ls.length <= maxLen) (hs:dL p w a ls) :
  Calls Tryz.prog 84 #[.slice a ls.length cap,.int .i64 no] w fun e w'=>e = .returned (.int .i64 (dS ls no)) /\ aa w w':=by
 unfold maxLen at hl
 generalize hn:ls.length=n at hl
 have Hn:Hid (ls.length=n):=hn
 clear hn
 go_enter Tryz.func84,Tryz.ntmps84
 go_wp2
 go_loopw [5] (fun i wr=>∃ k:Nat,k <= n /\ i = .int .i64 k /\ aa w wr /\ Hid (∀ (j:Nat) (m:Lk),j < k->ls[j]?=some m->hasB m.waits no=false)) (fun i _=>n - (intOf i).toNat)
 case atStart=>exact ⟨0,Nat.zero_le _,rfl,aa.refl _,fun j y hj=>by omega⟩
 case round =>
  obtain ⟨k,hk,rfl,hK,H⟩:=hrel
  by_cases hlt:k < n
  ·obtain ⟨l,hl1⟩:=cd (xs:=ls) (k:=k) (by rw [Hn.out];exact hlt)
   obtain ⟨b,off,a',cap',rfl,r0,r1,hle,hns⟩:=hs.at hl1
   have hlt':(k:Int) < (n:Int):=by omega
   have Hl:Hid (ls[k]?=some l):=hl1
   have lF:Hid (l.waits.length <= maxLen):=hle
   have N1:Hid (Ns w a' l.waits):=hns
   clear hs hl1 hle hns
   cases hq:hasB l.waits no
   ·go_wp2_with (go_at_call 147;refine (nW _ _ l.waits no _ lF.out (N1.out.keeps hK)).mono ?_;rintro e w1 ⟨rfl,k1⟩;rw [hq])
    exact ⟨⟨k+1,by omega,by go_num,hK.trans k1,fun j s hj hs=>by
     by_cases e:j=k
     ·subst e;rw [Hl.out] at hs;cases hs;exact hq
     ·exact H.out j s (by omega) hs⟩,by simp only [intOf];omega⟩
   ·have Hr:Hid (dS ls no=k):=by
     show _=_
     unfold dS
     rw [ux Hl.out hq H.out]
    go_wp2_with (go_at_call 147;refine (nW _ _ l.waits no _ lF.out (N1.out.keeps hK)).mono ?_;rintro e w1 ⟨rfl,k1⟩;rw [hq])
    go_ret
    exact ⟨by rw [Hr.out];rfl,hK.trans k1⟩
  ·have Hr:Hid (dS ls no = -1):=by
    show _=_
    unfold dS
    rw [rO fun j m hm=>H.out j m (by have:=cZ hm;rw [Hn.out] at this;omega) hm]
   go_wp2
   go_ret
   exact ⟨by rw [Hr.out];rfl,hK⟩
theorem uo (xs ys:List Int) (no:Int):eA (xs++ys) no=eA xs no+eA ys no:=by simp [eA]
theorem zo (xs:List Int) (no:Int):eA xs no <= xs.length:=List.length_filter_le _ _
theorem zp {xs:List Int} {k:Nat} {x no:Int} (h:xs[k]?=some x):eA (xs.take (k+1)) no=eA (xs.take k) no+(if x==no then 1 else 0):=by
 rw [List.take_add_one,h,uo]
 congr 1
 cases hx:(x==no) <;> simp [eA,hx]
theorem Iu (xs ys:List Lk) (no:Int):dR (xs++ys) no=dR xs no+dR ys no:=by
 induction xs with
 | nil=>simp [dR]
 | cons x r ih=>simp only [List.cons_append,dR,ih];omega
theorem Iv {ls:List Lk} {k:Nat} {l:Lk} (h:ls[k]?=some l) (no:Int):dR (ls.take (k+1)) no=dR (ls.take k) no+eA l.waits no:=by
 rw [List.take_add_one,h,Iu]
 simp [dR]
theorem Iw (ls:List Lk) (no:Int):dR ls no <= bD ls:=by
 induction ls with
 | nil=>simp [dR]
 | cons l r ih=>have:=zo l.waits no;simp only [dR,bD];omega
set_option maxHeartbeats 2000000 in
theorem zq (a:Option Addr) (cap:Nat) (ls:List Lk) (no:Int) (w:World) (hl:bR ls <= 2097152) (hs:dL p w a ls) :
  Calls Tryz.prog 111 #[.slice a ls.length cap,.int .i64 no] w fun e w'=>e = .returned (.int .i64 (dR ls no)) /\ aa w w':=by
 have HL:Hid (bR ls <= 2097152):=hl
 have hl0:ls.length <= 2097152:=by unfold bR at hl;omega
 clear hl
 generalize hn:ls.length=n at hl0
 have Hn:Hid (ls.length=n):=hn
 clear hn
 go_enter Tryz.func111,Tryz.ntmps111
 go_wp2
 go_loopw [5,6] (fun c i wr=>∃ (k q:Nat),k <= n /\ i = .int .i64 k /\ c = .int .i64 q /\ Hid (dR (ls.take k) no=q) /\ q <= 2097152 /\ aa w wr) (fun _ i _=>n - (intOf i).toNat)
 case atStart=>exact ⟨0,0,Nat.zero_le _,rfl,rfl,by show _=_;simp [dR],by omega,aa.refl _⟩
 case round =>
  obtain ⟨k,q,hk,rfl,rfl,Hq,hq1,hK⟩:=hrel
  by_cases hlt:k < n
  ·obtain ⟨l,hl1⟩:=cd (xs:=ls) (k:=k) (by rw [Hn.out];exact hlt)
   obtain ⟨b,off,a',cap',rfl,r0,r1,hle,hns⟩:=hs.at hl1
   have hlt':(k:Int) < (n:Int):=by omega
   have Hl:Hid (ls[k]?=some l):=hl1
   have lF:Hid (l.waits.length <= maxLen):=hle
   have hw1:Hid (l.waits.length <= 2097152):=by show _ <= _;have:=lh hl1;have:=HL.out;unfold bR at this;omega
   have hw2:Hid (q+l.waits.length <= 2097152):=by
    show _ <= _
    have h1:=pL hl1
    have h2:=tY ls (k+1)
    have h3:=Iw (ls.take k) no
    have h4:=HL.out
    rw [Hq.out] at h3
    unfold bR at h4
    omega
   clear hl1 hle
   obtain ⟨m,Hm⟩:∃ m:Nat,Hid (l.waits.length=m):=⟨_,rfl⟩
   have hm1:m <= 2097152:=by rw [<- Hm.out];exact hw1.out
   have hm2:q+m <= 2097152:=by rw [<- Hm.out];exact hw2.out
   rw [Hm.out] at r1
   go_wp2
   go_loopw [5,7] (fun c i wr=>∃ (j p:Nat),j <= m /\ i = .int .i64 j /\ c = .int .i64 p /\ Hid (q+eA (l.waits.take j) no=p) /\ p <= 2097152 /\ aa w wr) (fun _ i _=>m - (intOf i).toNat)
   case atStart=>exact ⟨0,q,Nat.zero_le _,rfl,rfl,by show _=_;simp [eA],hq1,hK⟩
   case round =>
    obtain ⟨j,p,hj,rfl,rfl,Hp,hp1,hK⟩:=hrel
    by_cases hlt2:j < m
    ·obtain ⟨x,hx⟩:=cd (xs:=l.waits) (k:=j) (by rw [Hm.out];exact hlt2)
     obtain ⟨b2,jq,rfl,x0⟩:=hns.at hx
     have hlt3:(j:Int) < (m:Int):=by omega
     have Hx:Hid (l.waits[j]?=some x):=hx
     have hp2:p < 2097152:=by
      have h1:=zo (l.waits.take j) no
      have h2:(l.waits.take j).length <= j:=by simp;omega
      have h3:=Hp.out
      omega
     clear hns hx
     cases hq:(x==no)
     ·go_wp2
      refine ⟨⟨j+1,p,by omega,by go_num,rfl,?_,hp1,hK⟩,by simp only [intOf];omega⟩
      show _=_
      rw [zp Hx.out,hq,<- Hp.out]
      simp
     ·go_wp2
      refine ⟨⟨j+1,p+1,by omega,by go_num,by go_num,?_,by omega,hK⟩,by simp only [intOf];omega⟩
      show _=_
      rw [zp Hx.out,hq,<- Hp.out]
      simp
      omega
    ·have e:j=m:=by omega
     subst e
     go_wp2
     refine ⟨⟨k+1,p,by omega,by go_num,rfl,?_,hp1,hK⟩,by simp only [intOf];omega⟩
     show _=_
     rw [Iv Hl.out,Hq.out,<- Hp.out,<- Hm.out,List.take_length]
  ·have e:k=n:=by omega
   subst e
   have Hr:Hid (dR ls no=q):=by show _=_;rw [<- Hq.out,<- Hn.out,List.take_length]
   go_wp2
   go_ret
   exact ⟨by rw [Hr.out];rfl,hK⟩
theorem ym {ls:List Lk} {no:Int} {k:Nat} {l:Lk} (hl:ls[k]?=some l) (h0:(no != 0)=true) (h1:(l.owner==no)=true):gO ls no=true:=by
 unfold gO
 rw [List.any_eq_true]
 exact ⟨l,List.mem_of_getElem? hl,by rw [h0,h1];rfl⟩
theorem t6 {ls:List Lk} {no:Int} (h:∀ (j:Nat) (l:Lk),ls[j]?=some l->(no != 0&&l.owner==no)=false):gO ls no=false:=by
 unfold gO
 rw [List.any_eq_false]
 intro l hl
 obtain ⟨j,hj,rfl⟩:=List.mem_iff_getElem.1 hl
 simpa using h j _ (List.getElem?_eq_getElem hj)
set_option maxHeartbeats 1000000 in
theorem Ix (a:Option Addr) (cap:Nat) (ls:List Lk) (no:Int) (w:World) (hl:ls.length <= maxLen) (hs:dL p w a ls) :
  Calls Tryz.prog 148 #[.slice a ls.length cap,.int .i64 no] w fun e w'=>e = .returned (.bool (gO ls no)) /\ aa w w':=by
 unfold maxLen at hl
 generalize hn:ls.length=n at hl
 have Hn:Hid (ls.length=n):=hn
 clear hn
 go_enter Tryz.func148,Tryz.ntmps148
 go_wp2
 go_loopw [5] (fun i wr=>∃ k:Nat,k <= n /\ i = .int .i64 k /\ aa w wr /\ Hid (∀ (j:Nat) (l:Lk),j < k->ls[j]?=some l->(no != 0&&l.owner==no)=false)) (fun i _=>n - (intOf i).toNat)
 case atStart=>exact ⟨0,Nat.zero_le _,rfl,aa.refl _,fun j y hj=>by omega⟩
 case round =>
  obtain ⟨k,hk,rfl,hK,H⟩:=hrel
  by_cases hlt:k < n
  ·obtain ⟨l,hl1⟩:=cd (xs:=ls) (k:=k) (by rw [Hn.out];exact hlt)
   obtain ⟨b,off,a',cap',rfl,r0,r1,-,-⟩:=hs.at hl1
   have hlt':(k:Int) < (n:Int):=by omega
   have Hl:Hid (ls[k]?=some l):=hl1
   clear hs hl1
   cases h0:(no != 0)
   ·go_wp2
    exact ⟨⟨k+1,by omega,by go_num,hK,fun j s hj hs=>rfl⟩,by simp only [intOf];omega⟩
   ·cases hq:(l.owner==no)
    ·go_wp2
     exact ⟨⟨k+1,by omega,by go_num,hK,fun j s hj hs=>by
      by_cases e:j=k
      ·subst e;rw [Hl.out] at hs;cases hs;rw [hq];simp
      ·have:=H.out j s (by omega) hs;rw [h0] at this;exact this⟩,by simp only [intOf];omega⟩
    ·have Hr:Hid (gO ls no=true):=ym Hl.out h0 hq
     go_wp2
     go_ret
     exact ⟨by rw [Hr.out];rfl,hK⟩
  ·have Hr:Hid (gO ls no=false):=t6 fun j y hy=>H.out j y (by have:=cZ hy;rw [Hn.out] at this;omega) hy
   go_wp2
   go_ret
   exact ⟨by rw [Hr.out];rfl,hK⟩
variable {p p':Bool}
attribute [local go_sem] aa.refl aa.alloc aa.drew aa.drewN
theorem vW (ls:List Lk):∀ (f:Nat) (no:Int),(cB ls f no).1.length <= f+1
 | 0,no=>by simp [cB]
 | f+1,no=>by
  cases h:da ls no with
  | none=>rw [ox h];simp
  | some i =>
   rw [oy h]
   have:=vW ls f (dY ls i)
   simp only [List.length_cons]
   omega
set_option maxHeartbeats 2000000 in
theorem rQ (a:Option Addr) (cap:Nat) (ls:List Lk) (no:Int) (w:World) (hl:ls.length <= 2097152) (hs:dL p w a ls) :
  Calls Tryz.prog 110 #[.slice a ls.length cap,.int .i64 no] w fun e w'=>∃ v,e = .returned (.tuple #[v,.bool (cB ls (ls.length+1) no).2]) /\ aS w' w.heap.size v (cB ls (ls.length+1) no).1 /\ aa w w':=by
 have HS:Hid (dL p w a ls):=hs
 clear hs
 have Hl:Hid (ls.length <= maxLen):=by show _ <= _;unfold maxLen;omega
 generalize hn:ls.length=n at hl
 have Hn:Hid (ls.length=n):=hn
 clear hn
 obtain ⟨C,HC⟩:∃ C,Hid (cB ls (n+1) no=C):=⟨_,rfl⟩
 rw [HC.out]
 go_enter Tryz.func110,Tryz.ntmps110
 go_wp2
 have kz:Hid (aa w (w.alloc (.cells #[.int .i64 no] 3))):=(aa.refl _).alloc _
 have dC:Hid (aS (w.alloc (.cells #[.int .i64 no] 3)) w.heap.size (.slice (some ⟨w.heap.size,0,none⟩) 1 1) ([]++[no])):=World.ownsRow_lit w #[.int .i64 no] 1 (Nat.le_refl _) (by unfold maxLen;omega) rfl
 generalize w.alloc (.cells #[.int .i64 no] 3)=W at *
 go_loopw [1,6,7] (fun c v i wr=>∃ (k:Nat) (done:List Int) (cur:Int),k <= n+1 /\ i = .int .i64 k /\ c = .int .i64 cur /\ done.length=k /\ Hid (aS wr w.heap.size v (done++[cur])) /\ aa w wr /\ Hid (C=(done++(cB ls (n+1 - k) cur).1,(cB ls (n+1 - k) cur).2))) (fun _ _ i _=>n+1 - (intOf i).toNat)
 case atStart=>exact ⟨0,[],no,Nat.zero_le _,rfl,rfl,rfl,dC,kz.out,by show _=_;rw [<- HC.out];simp⟩
 case round =>
  obtain ⟨k,done,cur,hk,rfl,rfl,hd,own,hK,HI⟩:=hrel
  clear dC kz
  by_cases hlt:k <= n
  ·have hlt':(k:Int) <= (n:Int):=by omega
   obtain ⟨f,Hf⟩:∃ f,Hid (n+1 - k=f+1):=⟨n - k,by show _=_;omega⟩
   have HI2:Hid (C=(done++(cB ls (f+1) cur).1,(cB ls (f+1) cur).2)):=by show _=_;rw [<- Hf.out];exact HI.out
   cases hx:da ls cur with
   | none =>
    have Hw:Hid (dS ls cur = -1):=by show _=_;unfold dS;rw [hx]
    have HR:Hid (C=(done++[cur],true)):=by show _=_;rw [HI2.out,ox hx]
    go_wp2_with (go_at_call 84;refine (by have:=rM a cap ls cur wr Hl.out (HS.out.keeps hK);rw [Hn.out,Hw.out] at this;exact this:Calls Tryz.prog 84 #[.slice a n cap,.int .i64 cur] wr fun e w'=>e = .returned (.int .i64 (-1)) /\ aa wr w').mono ?_;rintro e w1 ⟨rfl,k1⟩)
    go_ret2
    exact ⟨_,by rw [HR.out];rfl,by rw [HR.out];exact own.out.keeps k1,hK.trans k1⟩
   | some i =>
    obtain ⟨l,hl1,-,-⟩:=qc2 hx
    have Hw:Hid (dS ls cur=(i:Int)):=by show _=_;unfold dS;rw [hx]
    have Hi:Hid (i < n):=by show _ < _;have:=cZ hl1;rw [Hn.out] at this;exact this
    have hi1:(i:Int) < (n:Int):=by have:=Hi.out;omega
    obtain ⟨b,off,a',cap',rfl,r0,r1,-,-⟩:=HS.out.at hl1
    have HR:Hid (C=((done++[cur])++(cB ls f l.owner).1,(cB ls f l.owner).2)):=by
     show _=_
     rw [HI2.out,oy hx,iP hl1]
     simp
    clear hl1 r1
    go_wp2_with (first
     | (go_at_call 84;refine (by have:=rM (some ⟨b,off,none⟩) cap ls cur wr Hl.out (HS.out.keeps hK);rw [Hn.out,Hw.out] at this;exact this:Calls Tryz.prog 84 #[.slice (some ⟨b,off,none⟩) n cap,.int .i64 cur] wr fun e w'=>e = .returned (.int .i64 (i:Int)) /\ aa wr w').mono ?_;rintro e w1 ⟨rfl,k1⟩;have kk:aa w w1:=hK.trans k1)
     | (at_builtin;(refine ib rfl _ _ 27 rfl w 3 (.int .i64 0) 1 8 ic Tryz.underlying27 (by kernel_rfl) rfl (by decide) fq kV _ (done++[cur]) rfl w1 (own.out.keeps k1) kk ((aa.refl _).alloc _) l.owner _ 1 (aq.new _ _ _) rfl ?c1 ?c2 ?_)))
    case c1=>simp only [List.length_append,List.length_singleton];unfold maxLen;omega
    case c2=>simp only [List.length_append,List.length_singleton];omega
    intro v' w5 cz k5 _
    have HO:Hid (aS w5 w.heap.size v' (done++[cur]++[l.owner])):=by show aS _ _ _ _;simpa using cz
    clear cz own
    go_wp2
    refine ⟨⟨k+1,done++[cur],l.owner,by omega,by go_num,rfl,by simp [hd],HO,k5,?_⟩,by simp only [intOf];omega⟩
    show _=_
    rw [HR.out,show n+1 - (k+1)=f from by have:=Hf.out;omega]
  ·have e:k=n+1:=by omega
   have HR:Hid (C=(done++[cur],false)):=by show _=_;rw [HI.out,e,Nat.sub_self];rfl
   have hlt':((n:Int) < (k:Int)):=by omega
   go_wp2
   go_ret2
   exact ⟨_,by rw [HR.out];rfl,by rw [HR.out];exact own.out,hK⟩
theorem Iy {ls:List Lk} (h:5 < ls.length):du ls=false:=by
 unfold du
 rw [decide_eq_false (by omega)];rfl
theorem Iz {ls:List Lk} (h:ls.length <= 5) (H:∀ (j:Nat) (l:Lk),ls[j]?=some l->ik ls l=true):du ls=true:=by
 unfold du
 rw [decide_eq_true h,Bool.true_and,List.all_eq_true]
 intro l hl
 obtain ⟨j,hj,rfl⟩:=List.mem_iff_getElem.1 hl
 exact H j _ (List.getElem?_eq_getElem hj)
theorem IA {ls:List Lk} (h:du ls=true) {j:Nat} {l:Lk} (hl:ls[j]?=some l):ik ls l=true:=by
 unfold du at h
 simp only [Bool.and_eq_true,List.all_eq_true] at h
 exact h.2 l (List.mem_of_getElem? hl)
theorem qc4 {ls:List Lk} {j:Nat} {l:Lk} (hl:ls[j]?=some l) (h:ik ls l=false):du ls=false:=by
 cases hb:du ls
 ·rfl
 ·rw [IA hb hl] at h;cases h
theorem oJ {ls:List Lk} {l:Lk} {j:Nat} {x:Int} (hx:l.waits[j]?=some x) (h:iK ls x=false):ik ls l=false:=by
 unfold ik
 have:l.waits.all (iK ls)=false:=by
  rw [List.all_eq_false]
  exact ⟨x,List.mem_of_getElem? hx,by rw [h];simp⟩
 rw [this];simp
theorem zt {ls:List Lk} {l:Lk} (h0:aH l.owner 0 1000=true) (h1:(l.owner==0&&decide (0 < l.waits.length))=false) (H:∀ (j:Nat) (x:Int),l.waits[j]?=some x->iK ls x=true):ik ls l=true:=by
 unfold ik
 rw [h0,h1,Bool.true_and,Bool.not_false,Bool.true_and,List.all_eq_true]
 intro x hx
 obtain ⟨j,hj,rfl⟩:=List.mem_iff_getElem.1 hx
 exact H j _ (List.getElem?_eq_getElem hj)
set_option maxHeartbeats 4000000 in
theorem rL (a:Option Addr) (cap:Nat) (ls:List Lk) (w:World) (hl:bR ls <= 2097152) (hs:dL p w a ls) :
  Calls Tryz.prog 70 #[.slice a ls.length cap] w fun e w'=>e = .returned (.bool (du ls)) /\ aa w w':=by
 have HL:Hid (bR ls <= 2097152):=hl
 have hl0:ls.length <= 2097152:=by unfold bR at hl;omega
 clear hl
 have HS:Hid (dL p w a ls):=hs
 clear hs
 generalize hn:ls.length=n at hl0
 have Hn:Hid (ls.length=n):=hn
 clear hn
 by_cases h5:5 < n
 ·have h5':(5:Int) < (n:Int):=by omega
  have Hr:Hid (du ls=false):=Iy (by rw [Hn.out];exact h5)
  go_enter Tryz.func70,Tryz.ntmps70
  go_wp2
  go_ret
  exact ⟨by rw [Hr.out];rfl,aa.refl _⟩
 have h5':(n:Int) <= (5:Int):=by omega
 go_enter Tryz.func70,Tryz.ntmps70
 go_wp2
 go_loopw [3] (fun i wr=>∃ k:Nat,k <= n /\ i = .int .i64 k /\ aa w wr /\ Hid (∀ (j:Nat) (l:Lk),j < k->ls[j]?=some l->ik ls l=true)) (fun i _=>n - (intOf i).toNat)
 case atStart=>exact ⟨0,Nat.zero_le _,rfl,aa.refl _,fun j y hj=>by omega⟩
 case round =>
  obtain ⟨k,hk,rfl,hK,H⟩:=hrel
  by_cases hlt:k < n
  ·obtain ⟨l,hl1⟩:=cd (xs:=ls) (k:=k) (by rw [Hn.out];exact hlt)
   obtain ⟨b,off,a',cap',rfl,r0,r1,hle,hns⟩:=HS.out.at hl1
   have hlt':(k:Int) < (n:Int):=by omega
   have Hl:Hid (ls[k]?=some l):=hl1
   have hw1:Hid (l.waits.length <= 2097152):=by show _ <= _;have:=lh hl1;have:=HL.out;unfold bR at this;omega
   clear hl1 hle
   obtain ⟨m,Hm⟩:∃ m:Nat,Hid (l.waits.length=m):=⟨_,rfl⟩
   have hm1:m <= 2097152:=by rw [<- Hm.out];exact hw1.out
   rw [Hm.out] at r1
   cases c1:aH l.owner 0 1000
   ·have Hr:Hid (du ls=false):=qc4 Hl.out (by unfold ik;rw [c1];rfl)
    go_wp2_with (go_at_call 27;refine (bq _ _ _ _).mono ?_;rintro e w' ⟨rfl,hw'⟩;have hw2:=hw'.symm;subst hw2)
    go_ret
    exact ⟨by rw [Hr.out];rfl,hK⟩
   have key:(l.owner==0&&decide (0 < m))=true∨(l.owner==0&&decide (0 < m))=false:=by cases (l.owner==0&&decide (0 < m)) <;> simp
   rcases key with c2 | c2
   ·have Hr:Hid (du ls=false):=qc4 Hl.out (by unfold ik;rw [Hm.out,c2];simp)
    obtain ⟨c3,c4⟩:=Bool.and_eq_true_iff.1 c2
    have c5:(0:Int) < (m:Int):=by simpa using c4
    go_wp2_with (go_at_call 27;refine (bq _ _ _ _).mono ?_;rintro e w' ⟨rfl,hw'⟩;have hw2:=hw'.symm;subst hw2)
    go_ret
    exact ⟨by rw [Hr.out];rfl,hK⟩
   ·have C2:Hid ((l.owner==0&&decide (0 < l.waits.length))=false):=by show _=_;rw [Hm.out];exact c2
    have C1:Hid (aH l.owner 0 1000=true):=c1
    have lI:(l.owner==0)=false∨((l.owner==0)=true /\ decide (0 < m)=false):=by
     cases h:(l.owner==0)
     ·exact .inl rfl
     ·rw [h,Bool.true_and] at c2
      exact .inr ⟨rfl,c2⟩
    clear c2
    rcases lI with c3 | ⟨c3,mf⟩
    ·go_wp2_with (go_at_call 27;refine (bq _ _ _ _).mono ?_;rintro e w' ⟨rfl,hw'⟩;have hw2:=hw'.symm;subst hw2)
     go_loopw [4] (fun i wr=>∃ j:Nat,j <= m /\ i = .int .i64 j /\ aa w wr /\ Hid (∀ (t:Nat) (x:Int),t < j->l.waits[t]?=some x->iK ls x=true)) (fun i _=>m - (intOf i).toNat)
     case atStart=>exact ⟨0,Nat.zero_le _,rfl,hK,fun j y hj=>by omega⟩
     case round =>
      obtain ⟨j,hj,rfl,hK2,HW⟩:=hrel
      by_cases hlt2:j < m
      ·obtain ⟨x,hx⟩:=cd (xs:=l.waits) (k:=j) (by rw [Hm.out];exact hlt2)
       obtain ⟨b2,jq,rfl,x0⟩:=hns.at hx
       have hlt3:(j:Int) < (m:Int):=by omega
       have Hx:Hid (l.waits[j]?=some x):=hx
       obtain ⟨q,Hq⟩:∃ q:Nat,Hid (dR ls x=q):=⟨_,rfl⟩
       obtain ⟨g,Hg⟩:∃ g:Bool,Hid ((cB ls (n+1) x).2=g):=⟨_,rfl⟩
       have CH:Hid (∀ w',aa w w'->Calls Tryz.prog 110 #[.slice (some ⟨b,off,none⟩) n cap,.int .i64 x] w' fun e w''=>∃ v,e = .returned (.tuple #[v,.bool g]) /\ aa w' w''):=by
        intro w' h
        have:=rQ (some ⟨b,off,none⟩) cap ls x w' (by rw [Hn.out];exact hl0) (HS.out.keeps h)
        rw [Hn.out,Hg.out] at this
        exact this.mono fun e w'' ⟨v,h1,_,h2⟩=>⟨v,h1,h2⟩
       have WS:Hid (∀ w',aa w w'->Calls Tryz.prog 111 #[.slice (some ⟨b,off,none⟩) n cap,.int .i64 x] w' fun e w''=>e = .returned (.int .i64 (q:Int)) /\ aa w' w''):=by
        intro w' h
        have:=zq (some ⟨b,off,none⟩) cap ls x w' HL.out (HS.out.keeps h)
        rw [Hn.out,Hq.out] at this
        exact this
       have HB:Hid (iK ls x=(g&&(aH x 1 1000&&q==1))):=by show _=_;unfold iK;rw [Hn.out,Hg.out,Hq.out]
       clear hns hx
       cases c4:aH x 1 1000
       ·have Hr:Hid (du ls=false):=qc4 Hl.out (oJ Hx.out (by rw [HB.out,c4];simp))
        go_wp2_with (first
         | (go_at_call 27;refine (bq _ _ _ _).mono ?_;rintro e w' ⟨rfl,hw'⟩;have hw2:=hw'.symm;subst hw2)
         | (go_at_call 110;refine (CH.out _ hK2).mono ?_;rintro e w1 ⟨v1,rfl,k1⟩;have fD:aa w w1:=hK2.trans k1)
         | (go_at_call 111;refine (WS.out _ fD).mono ?_;rintro e w2 ⟨rfl,k2⟩;have js:aa w w2:=fD.trans k2))
        go_ret
        exact ⟨by rw [Hr.out];rfl,fD⟩
       ·cases c5:((q:Int) != 1)
        ·have hq1:(q==1)=true:=by simp at c5;simp;omega
         cases c6:g
         ·have Hr:Hid (du ls=false):=qc4 Hl.out (oJ Hx.out (by rw [HB.out,c6];simp))
          rw [c6] at CH
          go_wp2_with (first
           | (go_at_call 27;refine (bq _ _ _ _).mono ?_;rintro e w' ⟨rfl,hw'⟩;have hw2:=hw'.symm;subst hw2)
           | (go_at_call 110;refine (CH.out _ hK2).mono ?_;rintro e w1 ⟨v1,rfl,k1⟩;have fD:aa w w1:=hK2.trans k1)
           | (go_at_call 111;refine (WS.out _ fD).mono ?_;rintro e w2 ⟨rfl,k2⟩;have js:aa w w2:=fD.trans k2))
          go_ret
          exact ⟨by rw [Hr.out];rfl,js⟩
         ·have Hr:Hid (iK ls x=true):=by show _=_;rw [HB.out,c6,c4,hq1];rfl
          rw [c6] at CH
          go_wp2_with (first
           | (go_at_call 27;refine (bq _ _ _ _).mono ?_;rintro e w' ⟨rfl,hw'⟩;have hw2:=hw'.symm;subst hw2)
           | (go_at_call 110;refine (CH.out _ hK2).mono ?_;rintro e w1 ⟨v1,rfl,k1⟩;have fD:aa w w1:=hK2.trans k1)
           | (go_at_call 111;refine (WS.out _ fD).mono ?_;rintro e w2 ⟨rfl,k2⟩;have js:aa w w2:=fD.trans k2))
          exact ⟨⟨j+1,by omega,by go_num,js,fun t y ht hy=>by
           by_cases e:t=j
           ·subst e;rw [Hx.out] at hy;cases hy;exact Hr.out
           ·exact HW.out t y (by omega) hy⟩,by simp only [intOf];omega⟩
        ·have hq1:(q==1)=false:=by simp at c5;simp;omega
         have Hr:Hid (du ls=false):=qc4 Hl.out (oJ Hx.out (by rw [HB.out,hq1];simp))
         go_wp2_with (first
          | (go_at_call 27;refine (bq _ _ _ _).mono ?_;rintro e w' ⟨rfl,hw'⟩;have hw2:=hw'.symm;subst hw2)
          | (go_at_call 110;refine (CH.out _ hK2).mono ?_;rintro e w1 ⟨v1,rfl,k1⟩;have fD:aa w w1:=hK2.trans k1)
          | (go_at_call 111;refine (WS.out _ fD).mono ?_;rintro e w2 ⟨rfl,k2⟩;have js:aa w w2:=fD.trans k2))
         go_ret
         exact ⟨by rw [Hr.out];rfl,js⟩
      ·have e:j=m:=by omega
       subst e
       have Hk:Hid (ik ls l=true):=zt C1.out C2.out fun t x hx=>HW.out t x (by have:=cZ hx;rw [Hm.out] at this;exact this) hx
       go_wp2
       exact ⟨⟨k+1,by omega,by go_num,hK2,fun t y ht hy=>by
        by_cases e:t=k
        ·subst e;rw [Hl.out] at hy;cases hy;exact Hk.out
        ·exact H.out t y (by omega) hy⟩,by simp only [intOf];omega⟩
    ·go_wp2_with (go_at_call 27;refine (bq _ _ _ _).mono ?_;rintro e w' ⟨rfl,hw'⟩;have hw2:=hw'.symm;subst hw2)
     go_loopw [4] (fun i wr=>∃ j:Nat,j <= m /\ i = .int .i64 j /\ aa w wr /\ Hid (∀ (t:Nat) (x:Int),t < j->l.waits[t]?=some x->iK ls x=true)) (fun i _=>m - (intOf i).toNat)
     case atStart=>exact ⟨0,Nat.zero_le _,rfl,hK,fun j y hj=>by omega⟩
     case round =>
      obtain ⟨j,hj,rfl,hK2,HW⟩:=hrel
      by_cases hlt2:j < m
      ·obtain ⟨x,hx⟩:=cd (xs:=l.waits) (k:=j) (by rw [Hm.out];exact hlt2)
       obtain ⟨b2,jq,rfl,x0⟩:=hns.at hx
       have hlt3:(j:Int) < (m:Int):=by omega
       have Hx:Hid (l.waits[j]?=some x):=hx
       obtain ⟨q,Hq⟩:∃ q:Nat,Hid (dR ls x=q):=⟨_,rfl⟩
       obtain ⟨g,Hg⟩:∃ g:Bool,Hid ((cB ls (n+1) x).2=g):=⟨_,rfl⟩
       have CH:Hid (∀ w',aa w w'->Calls Tryz.prog 110 #[.slice (some ⟨b,off,none⟩) n cap,.int .i64 x] w' fun e w''=>∃ v,e = .returned (.tuple #[v,.bool g]) /\ aa w' w''):=by
        intro w' h
        have:=rQ (some ⟨b,off,none⟩) cap ls x w' (by rw [Hn.out];exact hl0) (HS.out.keeps h)
        rw [Hn.out,Hg.out] at this
        exact this.mono fun e w'' ⟨v,h1,_,h2⟩=>⟨v,h1,h2⟩
       have WS:Hid (∀ w',aa w w'->Calls Tryz.prog 111 #[.slice (some ⟨b,off,none⟩) n cap,.int .i64 x] w' fun e w''=>e = .returned (.int .i64 (q:Int)) /\ aa w' w''):=by
        intro w' h
        have:=zq (some ⟨b,off,none⟩) cap ls x w' HL.out (HS.out.keeps h)
        rw [Hn.out,Hq.out] at this
        exact this
       have HB:Hid (iK ls x=(g&&(aH x 1 1000&&q==1))):=by show _=_;unfold iK;rw [Hn.out,Hg.out,Hq.out]
       clear hns hx
       cases c4:aH x 1 1000
       ·have Hr:Hid (du ls=false):=qc4 Hl.out (oJ Hx.out (by rw [HB.out,c4];simp))
        go_wp2_with (first
         | (go_at_call 27;refine (bq _ _ _ _).mono ?_;rintro e w' ⟨rfl,hw'⟩;have hw2:=hw'.symm;subst hw2)
         | (go_at_call 110;refine (CH.out _ hK2).mono ?_;rintro e w1 ⟨v1,rfl,k1⟩;have fD:aa w w1:=hK2.trans k1)
         | (go_at_call 111;refine (WS.out _ fD).mono ?_;rintro e w2 ⟨rfl,k2⟩;have js:aa w w2:=fD.trans k2))
        go_ret
        exact ⟨by rw [Hr.out];rfl,fD⟩
       ·cases c5:((q:Int) != 1)
        ·have hq1:(q==1)=true:=by simp at c5;simp;omega
         cases c6:g
         ·have Hr:Hid (du ls=false):=qc4 Hl.out (oJ Hx.out (by rw [HB.out,c6];simp))
          rw [c6] at CH
          go_wp2_with (first
           | (go_at_call 27;refine (bq _ _ _ _).mono ?_;rintro e w' ⟨rfl,hw'⟩;have hw2:=hw'.symm;subst hw2)
           | (go_at_call 110;refine (CH.out _ hK2).mono ?_;rintro e w1 ⟨v1,rfl,k1⟩;have fD:aa w w1:=hK2.trans k1)
           | (go_at_call 111;refine (WS.out _ fD).mono ?_;rintro e w2 ⟨rfl,k2⟩;have js:aa w w2:=fD.trans k2))
          go_ret
          exact ⟨by rw [Hr.out];rfl,js⟩
         ·have Hr:Hid (iK ls x=true):=by show _=_;rw [HB.out,c6,c4,hq1];rfl
          rw [c6] at CH
          go_wp2_with (first
           | (go_at_call 27;refine (bq _ _ _ _).mono ?_;rintro e w' ⟨rfl,hw'⟩;have hw2:=hw'.symm;subst hw2)
           | (go_at_call 110;refine (CH.out _ hK2).mono ?_;rintro e w1 ⟨v1,rfl,k1⟩;have fD:aa w w1:=hK2.trans k1)
           | (go_at_call 111;refine (WS.out _ fD).mono ?_;rintro e w2 ⟨rfl,k2⟩;have js:aa w w2:=fD.trans k2))
          exact ⟨⟨j+1,by omega,by go_num,js,fun t y ht hy=>by
           by_cases e:t=j
           ·subst e;rw [Hx.out] at hy;cases hy;exact Hr.out
           ·exact HW.out t y (by omega) hy⟩,by simp only [intOf];omega⟩
        ·have hq1:(q==1)=false:=by simp at c5;simp;omega
         have Hr:Hid (du ls=false):=qc4 Hl.out (oJ Hx.out (by rw [HB.out,hq1];simp))
         go_wp2_with (first
          | (go_at_call 27;refine (bq _ _ _ _).mono ?_;rintro e w' ⟨rfl,hw'⟩;have hw2:=hw'.symm;subst hw2)
          | (go_at_call 110;refine (CH.out _ hK2).mono ?_;rintro e w1 ⟨v1,rfl,k1⟩;have fD:aa w w1:=hK2.trans k1)
          | (go_at_call 111;refine (WS.out _ fD).mono ?_;rintro e w2 ⟨rfl,k2⟩;have js:aa w w2:=fD.trans k2))
         go_ret
         exact ⟨by rw [Hr.out];rfl,js⟩
      ·have e:j=m:=by omega
       subst e
       have Hk:Hid (ik ls l=true):=zt C1.out C2.out fun t x hx=>HW.out t x (by have:=cZ hx;rw [Hm.out] at this;exact this) hx
       go_wp2
       exact ⟨⟨k+1,by omega,by go_num,hK2,fun t y ht hy=>by
        by_cases e:t=k
        ·subst e;rw [Hl.out] at hy;cases hy;exact Hk.out
        ·exact H.out t y (by omega) hy⟩,by simp only [intOf];omega⟩
  ·have e:k=n:=by omega
   subst e
   have Hr:Hid (du ls=true):=Iz (by rw [Hn.out];omega) fun j l hl=>H.out j l (by have:=cZ hl;rw [Hn.out] at this;exact this) hl
   go_wp2
   go_ret
   exact ⟨by rw [Hr.out];rfl,hK⟩
end Go.Proofs.YteagpjlgjfaclaaGreatDoor
