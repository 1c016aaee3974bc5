/-
  Locks: contracts of the model's chains, and of what is righ
-/
import Derived.Test.YteagpjlgjfaclaaGreatDoorFrame
namespace Go.Proofs.YteagpjlgjfaclaaGreatDoor
set_option maxRecDepth 100000
open Go.RowKit
variable {p p':Bool}
attribute [local go_sem] Keeps.refl Keeps.alloc Keeps.drew Keeps.drewN
theorem qg4 (ls:List Lk):∀ (f:Nat) (no:Int),(qap ls f no).1.length <= f+1
 | 0,no=>by simp [qap]
 | f+1,no=>by
  cases h:qay ls no with
  | none=>rw [qdJ h];simp
  | some i =>
   rw [qdK h]
   have:=qg4 ls f (qaE ls i)
   simp only [List.length_cons]
   omega
set_option maxHeartbeats 2000000 in
theorem qeG (a:Option Addr) (cap:Nat) (ls:List Lk) (no:Int) (w:World) (hl:ls.length <= 2097152) (hs:Lks p w a ls) :
  Calls Tryz.prog 110 #[.slice a ls.length cap,.int .i64 no] w fun e w'=>∃ v,e = .returned (.tuple #[v,.bool (qap ls (ls.length+1) no).2]) /\ OwnN w' w.heap.size v (qap ls (ls.length+1) no).1 /\ Keeps w w':=by
 have HS:Hid (Lks p w a ls):=hs
 clear hs
 have Hl:Hid (ls.length <= maxLen):=by show _ <= _;unfold maxLen;omega
 generalize hn:ls.length=n at hl
 have Hn:Hid (ls.length=n):=hn
 clear hn
 obtain ⟨C,HC⟩:∃ C,Hid (qap ls (n+1) no=C):=⟨_,rfl⟩
 rw [HC.out]
 go_enter Tryz.func110,Tryz.ntmps110
 go_wp2
 have kz:Hid (Keeps w (w.alloc (.cells #[.int .i64 no] 3))):=(Keeps.refl _).alloc _
 have own0:Hid (OwnN (w.alloc (.cells #[.int .i64 no] 3)) w.heap.size (.slice (some ⟨w.heap.size,0,none⟩) 1 1) ([]++[no])):=World.ownsRow_lit w #[.int .i64 no] 1 (Nat.le_refl _) (by unfold maxLen;omega) rfl
 generalize w.alloc (.cells #[.int .i64 no] 3)=W at *
 go_loopw [1,6,7] (fun c v i wr=>∃ (k:Nat) (done:List Int) (cur:Int),k <= n+1 /\ i = .int .i64 k /\ c = .int .i64 cur /\ done.length=k /\ Hid (OwnN wr w.heap.size v (done++[cur])) /\ Keeps w wr /\ Hid (C=(done++(qap ls (n+1 - k) cur).1,(qap ls (n+1 - k) cur).2))) (fun _ _ i _=>n+1 - (intOf i).toNat)
 case atStart=>exact ⟨0,[],no,Nat.zero_le _,rfl,rfl,rfl,own0,kz.out,by show _=_;rw [<- HC.out];simp⟩
 case round =>
  obtain ⟨k,done,cur,hk,rfl,rfl,hd,own,hK,HI⟩:=hrel
  clear own0 kz
  by_cases hlt:k <= n
  ·have hlt':(k:Int) <= (n:Int):=by omega
   obtain ⟨f,Hf⟩:∃ f,Hid (n+1 - k=f+1):=⟨n - k,by show _=_;omega⟩
   have HI2:Hid (C=(done++(qap ls (f+1) cur).1,(qap ls (f+1) cur).2)):=by show _=_;rw [<- Hf.out];exact HI.out
   cases hx:qay ls cur with
   | none =>
    have Hw:Hid (qaJ ls cur = -1):=by show _=_;unfold qaJ;rw [hx]
    have HR:Hid (C=(done++[cur],true)):=by show _=_;rw [HI2.out,qdJ hx]
    go_wp2_with (go_at_call 84;refine (by have:=qeF a cap ls cur wr Hl.out (HS.out.keeps hK);rw [Hn.out,Hw.out] at this;exact this:Calls Tryz.prog 84 #[.slice a n cap,.int .i64 cur] wr fun e w'=>e = .returned (.int .i64 (-1)) /\ Keeps wr w').mono ?_;rintro e w1 ⟨rfl,k1⟩)
    go_ret2
    exact ⟨_,by rw [HR.out];rfl,by rw [HR.out];exact own.out.keeps k1,hK.trans k1⟩
   | some i =>
    obtain ⟨l,hl1,-,-⟩:=qc6 hx
    have Hw:Hid (qaJ ls cur=(i:Int)):=by show _=_;unfold qaJ;rw [hx]
    have Hi:Hid (i < n):=by show _ < _;have:=qaw hl1;rw [Hn.out] at this;exact this
    have hi1:(i:Int) < (n:Int):=by have:=Hi.out;omega
    obtain ⟨b,off,a',cap',rfl,r0,r1,-,-⟩:=HS.out.at hl1
    have HR:Hid (C=((done++[cur])++(qap ls f l.owner).1,(qap ls f l.owner).2)):=by
     show _=_
     rw [HI2.out,qdK hx,qbT hl1]
     simp
    clear hl1 r1
    go_wp2_with (first
     | (go_at_call 84;refine (by have:=qeF (some ⟨b,off,none⟩) cap ls cur wr Hl.out (HS.out.keeps hK);rw [Hn.out,Hw.out] at this;exact this:Calls Tryz.prog 84 #[.slice (some ⟨b,off,none⟩) n cap,.int .i64 cur] wr fun e w'=>e = .returned (.int .i64 (i:Int)) /\ Keeps wr w').mono ?_;rintro e w1 ⟨rfl,k1⟩;have kk:Keeps w w1:=hK.trans k1)
     | (at_builtin;(refine qbA rfl _ _ 27 rfl w 3 (.int .i64 0) 1 8 ic Tryz.underlying27 (by kernel_rfl) rfl (by decide) qaW qcH _ (done++[cur]) rfl w1 (own.out.keeps k1) kk ((Keeps.refl _).alloc _) l.owner _ 1 (Blk.new _ _ _) rfl ?c1 ?c2 ?_)))
    case c1=>simp only [List.length_append,List.length_singleton];unfold maxLen;omega
    case c2=>simp only [List.length_append,List.length_singleton];omega
    intro v' w5 own5 k5 _
    have HO:Hid (OwnN w5 w.heap.size v' (done++[cur]++[l.owner])):=by show OwnN _ _ _ _;simpa using own5
    clear own5 own
    go_wp2
    refine ⟨⟨k+1,done++[cur],l.owner,by omega,by go_num,rfl,by simp [hd],HO,k5,?_⟩,by simp only [intOf];omega⟩
    show _=_
    rw [HR.out,show n+1 - (k+1)=f from by have:=Hf.out;omega]
  ·have e:k=n+1:=by omega
   have HR:Hid (C=(done++[cur],false)):=by show _=_;rw [HI.out,e,Nat.sub_self];rfl
   have hlt':((n:Int) < (k:Int)):=by omega
   go_wp2
   go_ret2
   exact ⟨_,by rw [HR.out];rfl,by rw [HR.out];exact own.out,hK⟩
theorem qls {ls:List Lk} (h:5 < ls.length):qax ls=false:=by
 unfold qax
 rw [decide_eq_false (by omega)];rfl
theorem qlt {ls:List Lk} (h:ls.length <= 5) (H:∀ (j:Nat) (l:Lk),ls[j]?=some l->qbz ls l=true):qax ls=true:=by
 unfold qax
 rw [decide_eq_true h,Bool.true_and,List.all_eq_true]
 intro l hl
 obtain ⟨j,hj,rfl⟩:=List.mem_iff_getElem.1 hl
 exact H j _ (List.getElem?_eq_getElem hj)
theorem qlu {ls:List Lk} (h:qax ls=true) {j:Nat} {l:Lk} (hl:ls[j]?=some l):qbz ls l=true:=by
 unfold qax at h
 simp only [Bool.and_eq_true,List.all_eq_true] at h
 exact h.2 l (List.mem_of_getElem? hl)
theorem qc7 {ls:List Lk} {j:Nat} {l:Lk} (hl:ls[j]?=some l) (h:qbz ls l=false):qax ls=false:=by
 cases hb:qax ls
 ·rfl
 ·rw [qlu hb hl] at h;cases h
theorem qdN {ls:List Lk} {l:Lk} {j:Nat} {x:Int} (hx:l.waits[j]?=some x) (h:qbJ ls x=false):qbz ls l=false:=by
 unfold qbz
 have:l.waits.all (qbJ ls)=false:=by
  rw [List.all_eq_false]
  exact ⟨x,List.mem_of_getElem? hx,by rw [h];simp⟩
 rw [this];simp
theorem qg5 {ls:List Lk} {l:Lk} (h0:inB l.owner 0 1000=true) (h1:(l.owner==0&&decide (0 < l.waits.length))=false) (H:∀ (j:Nat) (x:Int),l.waits[j]?=some x->qbJ ls x=true):qbz ls l=true:=by
 unfold qbz
 rw [h0,h1,Bool.true_and,Bool.not_false,Bool.true_and,List.all_eq_true]
 intro x hx
 obtain ⟨j,hj,rfl⟩:=List.mem_iff_getElem.1 hx
 exact H j _ (List.getElem?_eq_getElem hj)
set_option maxHeartbeats 4000000 in
theorem qeH (a:Option Addr) (cap:Nat) (ls:List Lk) (w:World) (hl:qaj ls <= 2097152) (hs:Lks p w a ls) :
  Calls Tryz.prog 70 #[.slice a ls.length cap] w fun e w'=>e = .returned (.bool (qax ls)) /\ Keeps w w':=by
 have HL:Hid (qaj ls <= 2097152):=hl
 have hl0:ls.length <= 2097152:=by unfold qaj at hl;omega
 clear hl
 have HS:Hid (Lks p w a ls):=hs
 clear hs
 generalize hn:ls.length=n at hl0
 have Hn:Hid (ls.length=n):=hn
 clear hn
 by_cases h5:5 < n
 ·have h5':(5:Int) < (n:Int):=by omega
  have Hr:Hid (qax ls=false):=qls (by rw [Hn.out];exact h5)
  go_enter Tryz.func70,Tryz.ntmps70
  go_wp2
  go_ret
  exact ⟨by rw [Hr.out];rfl,Keeps.refl _⟩
 have h5':(n:Int) <= (5:Int):=by omega
 go_enter Tryz.func70,Tryz.ntmps70
 go_wp2
 go_loopw [3] (fun i wr=>∃ k:Nat,k <= n /\ i = .int .i64 k /\ Keeps w wr /\ Hid (∀ (j:Nat) (l:Lk),j < k->ls[j]?=some l->qbz ls l=true)) (fun i _=>n - (intOf i).toNat)
 case atStart=>exact ⟨0,Nat.zero_le _,rfl,Keeps.refl _,fun j y hj=>by omega⟩
 case round =>
  obtain ⟨k,hk,rfl,hK,H⟩:=hrel
  by_cases hlt:k < n
  ·obtain ⟨l,hl1⟩:=qal (xs:=ls) (k:=k) (by rw [Hn.out];exact hlt)
   obtain ⟨b,off,a',cap',rfl,r0,r1,hle,hns⟩:=HS.out.at hl1
   have hlt':(k:Int) < (n:Int):=by omega
   have Hl:Hid (ls[k]?=some l):=hl1
   have hw1:Hid (l.waits.length <= 2097152):=by show _ <= _;have:=qcM hl1;have:=HL.out;unfold qaj at this;omega
   clear hl1 hle
   obtain ⟨m,Hm⟩:∃ m:Nat,Hid (l.waits.length=m):=⟨_,rfl⟩
   have hm1:m <= 2097152:=by rw [<- Hm.out];exact hw1.out
   rw [Hm.out] at r1
   cases c1:inB l.owner 0 1000
   ·have Hr:Hid (qax ls=false):=qc7 Hl.out (by unfold qbz;rw [c1];rfl)
    go_wp2_with (go_at_call 27;refine (qag _ _ _ _).mono ?_;rintro e w' ⟨rfl,hw'⟩;have hw2:=hw'.symm;subst hw2)
    go_ret
    exact ⟨by rw [Hr.out];rfl,hK⟩
   have key:(l.owner==0&&decide (0 < m))=true∨(l.owner==0&&decide (0 < m))=false:=by cases (l.owner==0&&decide (0 < m)) <;> simp
   rcases key with c2 | c2
   ·have Hr:Hid (qax ls=false):=qc7 Hl.out (by unfold qbz;rw [Hm.out,c2];simp)
    obtain ⟨c3,c4⟩:=Bool.and_eq_true_iff.1 c2
    have c5:(0:Int) < (m:Int):=by simpa using c4
    go_wp2_with (go_at_call 27;refine (qag _ _ _ _).mono ?_;rintro e w' ⟨rfl,hw'⟩;have hw2:=hw'.symm;subst hw2)
    go_ret
    exact ⟨by rw [Hr.out];rfl,hK⟩
   ·have C2:Hid ((l.owner==0&&decide (0 < l.waits.length))=false):=by show _=_;rw [Hm.out];exact c2
    have C1:Hid (inB l.owner 0 1000=true):=c1
    have toInner:(l.owner==0)=false∨((l.owner==0)=true /\ decide (0 < m)=false):=by
     cases h:(l.owner==0)
     ·exact .inl rfl
     ·rw [h,Bool.true_and] at c2
      exact .inr ⟨rfl,c2⟩
    clear c2
    rcases toInner with c3 | ⟨c3,c4'⟩
    ·go_wp2_with (go_at_call 27;refine (qag _ _ _ _).mono ?_;rintro e w' ⟨rfl,hw'⟩;have hw2:=hw'.symm;subst hw2)
     go_loopw [4] (fun i wr=>∃ j:Nat,j <= m /\ i = .int .i64 j /\ Keeps w wr /\ Hid (∀ (t:Nat) (x:Int),t < j->l.waits[t]?=some x->qbJ ls x=true)) (fun i _=>m - (intOf i).toNat)
     case atStart=>exact ⟨0,Nat.zero_le _,rfl,hK,fun j y hj=>by omega⟩
     case round =>
      obtain ⟨j,hj,rfl,hK2,HW⟩:=hrel
      by_cases hlt2:j < m
      ·obtain ⟨x,hx⟩:=qal (xs:=l.waits) (k:=j) (by rw [Hm.out];exact hlt2)
       obtain ⟨b2,off2,rfl,x0⟩:=hns.at hx
       have hlt3:(j:Int) < (m:Int):=by omega
       have Hx:Hid (l.waits[j]?=some x):=hx
       obtain ⟨q,Hq⟩:∃ q:Nat,Hid (qaG ls x=q):=⟨_,rfl⟩
       obtain ⟨g,Hg⟩:∃ g:Bool,Hid ((qap ls (n+1) x).2=g):=⟨_,rfl⟩
       have CH:Hid (∀ w',Keeps w w'->Calls Tryz.prog 110 #[.slice (some ⟨b,off,none⟩) n cap,.int .i64 x] w' fun e w''=>∃ v,e = .returned (.tuple #[v,.bool g]) /\ Keeps w' w''):=by
        intro w' h
        have:=qeG (some ⟨b,off,none⟩) cap ls x w' (by rw [Hn.out];exact hl0) (HS.out.keeps h)
        rw [Hn.out,Hg.out] at this
        exact this.mono fun e w'' ⟨v,h1,_,h2⟩=>⟨v,h1,h2⟩
       have WS:Hid (∀ w',Keeps w w'->Calls Tryz.prog 111 #[.slice (some ⟨b,off,none⟩) n cap,.int .i64 x] w' fun e w''=>e = .returned (.int .i64 (q:Int)) /\ Keeps w' w''):=by
        intro w' h
        have:=qg3 (some ⟨b,off,none⟩) cap ls x w' HL.out (HS.out.keeps h)
        rw [Hn.out,Hq.out] at this
        exact this
       have HB:Hid (qbJ ls x=(g&&(inB x 1 1000&&q==1))):=by show _=_;unfold qbJ;rw [Hn.out,Hg.out,Hq.out]
       clear hns hx
       cases c4:inB x 1 1000
       ·have Hr:Hid (qax ls=false):=qc7 Hl.out (qdN Hx.out (by rw [HB.out,c4];simp))
        go_wp2_with (first
         | (go_at_call 27;refine (qag _ _ _ _).mono ?_;rintro e w' ⟨rfl,hw'⟩;have hw2:=hw'.symm;subst hw2)
         | (go_at_call 110;refine (CH.out _ hK2).mono ?_;rintro e w1 ⟨v1,rfl,k1⟩;have kk1:Keeps w w1:=hK2.trans k1)
         | (go_at_call 111;refine (WS.out _ kk1).mono ?_;rintro e w2 ⟨rfl,k2⟩;have kk2:Keeps w w2:=kk1.trans k2))
        go_ret
        exact ⟨by rw [Hr.out];rfl,kk1⟩
       ·cases c5:((q:Int) != 1)
        ·have hq1:(q==1)=true:=by simp at c5;simp;omega
         cases c6:g
         ·have Hr:Hid (qax ls=false):=qc7 Hl.out (qdN Hx.out (by rw [HB.out,c6];simp))
          rw [c6] at CH
          go_wp2_with (first
           | (go_at_call 27;refine (qag _ _ _ _).mono ?_;rintro e w' ⟨rfl,hw'⟩;have hw2:=hw'.symm;subst hw2)
           | (go_at_call 110;refine (CH.out _ hK2).mono ?_;rintro e w1 ⟨v1,rfl,k1⟩;have kk1:Keeps w w1:=hK2.trans k1)
           | (go_at_call 111;refine (WS.out _ kk1).mono ?_;rintro e w2 ⟨rfl,k2⟩;have kk2:Keeps w w2:=kk1.trans k2))
          go_ret
          exact ⟨by rw [Hr.out];rfl,kk2⟩
         ·have Hr:Hid (qbJ ls x=true):=by show _=_;rw [HB.out,c6,c4,hq1];rfl
          rw [c6] at CH
          go_wp2_with (first
           | (go_at_call 27;refine (qag _ _ _ _).mono ?_;rintro e w' ⟨rfl,hw'⟩;have hw2:=hw'.symm;subst hw2)
           | (go_at_call 110;refine (CH.out _ hK2).mono ?_;rintro e w1 ⟨v1,rfl,k1⟩;have kk1:Keeps w w1:=hK2.trans k1)
           | (go_at_call 111;refine (WS.out _ kk1).mono ?_;rintro e w2 ⟨rfl,k2⟩;have kk2:Keeps w w2:=kk1.trans k2))
          exact ⟨⟨j+1,by omega,by go_num,kk2,fun t y ht hy=>by
           by_cases e:t=j
           ·subst e;rw [Hx.out] at hy;cases hy;exact Hr.out
           ·exact HW.out t y (by omega) hy⟩,by simp only [intOf];omega⟩
        ·have hq1:(q==1)=false:=by simp at c5;simp;omega
         have Hr:Hid (qax ls=false):=qc7 Hl.out (qdN Hx.out (by rw [HB.out,hq1];simp))
         go_wp2_with (first
          | (go_at_call 27;refine (qag _ _ _ _).mono ?_;rintro e w' ⟨rfl,hw'⟩;have hw2:=hw'.symm;subst hw2)
          | (go_at_call 110;refine (CH.out _ hK2).mono ?_;rintro e w1 ⟨v1,rfl,k1⟩;have kk1:Keeps w w1:=hK2.trans k1)
          | (go_at_call 111;refine (WS.out _ kk1).mono ?_;rintro e w2 ⟨rfl,k2⟩;have kk2:Keeps w w2:=kk1.trans k2))
         go_ret
         exact ⟨by rw [Hr.out];rfl,kk2⟩
      ·have e:j=m:=by omega
       subst e
       have Hk:Hid (qbz ls l=true):=qg5 C1.out C2.out fun t x hx=>HW.out t x (by have:=qaw hx;rw [Hm.out] at this;exact this) hx
       go_wp2
       exact ⟨⟨k+1,by omega,by go_num,hK2,fun t y ht hy=>by
        by_cases e:t=k
        ·subst e;rw [Hl.out] at hy;cases hy;exact Hk.out
        ·exact H.out t y (by omega) hy⟩,by simp only [intOf];omega⟩
    ·go_wp2_with (go_at_call 27;refine (qag _ _ _ _).mono ?_;rintro e w' ⟨rfl,hw'⟩;have hw2:=hw'.symm;subst hw2)
     go_loopw [4] (fun i wr=>∃ j:Nat,j <= m /\ i = .int .i64 j /\ Keeps w wr /\ Hid (∀ (t:Nat) (x:Int),t < j->l.waits[t]?=some x->qbJ ls x=true)) (fun i _=>m - (intOf i).toNat)
     case atStart=>exact ⟨0,Nat.zero_le _,rfl,hK,fun j y hj=>by omega⟩
     case round =>
      obtain ⟨j,hj,rfl,hK2,HW⟩:=hrel
      by_cases hlt2:j < m
      ·obtain ⟨x,hx⟩:=qal (xs:=l.waits) (k:=j) (by rw [Hm.out];exact hlt2)
       obtain ⟨b2,off2,rfl,x0⟩:=hns.at hx
       have hlt3:(j:Int) < (m:Int):=by omega
       have Hx:Hid (l.waits[j]?=some x):=hx
       obtain ⟨q,Hq⟩:∃ q:Nat,Hid (qaG ls x=q):=⟨_,rfl⟩
       obtain ⟨g,Hg⟩:∃ g:Bool,Hid ((qap ls (n+1) x).2=g):=⟨_,rfl⟩
       have CH:Hid (∀ w',Keeps w w'->Calls Tryz.prog 110 #[.slice (some ⟨b,off,none⟩) n cap,.int .i64 x] w' fun e w''=>∃ v,e = .returned (.tuple #[v,.bool g]) /\ Keeps w' w''):=by
        intro w' h
        have:=qeG (some ⟨b,off,none⟩) cap ls x w' (by rw [Hn.out];exact hl0) (HS.out.keeps h)
        rw [Hn.out,Hg.out] at this
        exact this.mono fun e w'' ⟨v,h1,_,h2⟩=>⟨v,h1,h2⟩
       have WS:Hid (∀ w',Keeps w w'->Calls Tryz.prog 111 #[.slice (some ⟨b,off,none⟩) n cap,.int .i64 x] w' fun e w''=>e = .returned (.int .i64 (q:Int)) /\ Keeps w' w''):=by
        intro w' h
        have:=qg3 (some ⟨b,off,none⟩) cap ls x w' HL.out (HS.out.keeps h)
        rw [Hn.out,Hq.out] at this
        exact this
       have HB:Hid (qbJ ls x=(g&&(inB x 1 1000&&q==1))):=by show _=_;unfold qbJ;rw [Hn.out,Hg.out,Hq.out]
       clear hns hx
       cases c4:inB x 1 1000
       ·have Hr:Hid (qax ls=false):=qc7 Hl.out (qdN Hx.out (by rw [HB.out,c4];simp))
        go_wp2_with (first
         | (go_at_call 27;refine (qag _ _ _ _).mono ?_;rintro e w' ⟨rfl,hw'⟩;have hw2:=hw'.symm;subst hw2)
         | (go_at_call 110;refine (CH.out _ hK2).mono ?_;rintro e w1 ⟨v1,rfl,k1⟩;have kk1:Keeps w w1:=hK2.trans k1)
         | (go_at_call 111;refine (WS.out _ kk1).mono ?_;rintro e w2 ⟨rfl,k2⟩;have kk2:Keeps w w2:=kk1.trans k2))
        go_ret
        exact ⟨by rw [Hr.out];rfl,kk1⟩
       ·cases c5:((q:Int) != 1)
        ·have hq1:(q==1)=true:=by simp at c5;simp;omega
         cases c6:g
         ·have Hr:Hid (qax ls=false):=qc7 Hl.out (qdN Hx.out (by rw [HB.out,c6];simp))
          rw [c6] at CH
          go_wp2_with (first
           | (go_at_call 27;refine (qag _ _ _ _).mono ?_;rintro e w' ⟨rfl,hw'⟩;have hw2:=hw'.symm;subst hw2)
           | (go_at_call 110;refine (CH.out _ hK2).mono ?_;rintro e w1 ⟨v1,rfl,k1⟩;have kk1:Keeps w w1:=hK2.trans k1)
           | (go_at_call 111;refine (WS.out _ kk1).mono ?_;rintro e w2 ⟨rfl,k2⟩;have kk2:Keeps w w2:=kk1.trans k2))
          go_ret
          exact ⟨by rw [Hr.out];rfl,kk2⟩
         ·have Hr:Hid (qbJ ls x=true):=by show _=_;rw [HB.out,c6,c4,hq1];rfl
          rw [c6] at CH
          go_wp2_with (first
           | (go_at_call 27;refine (qag _ _ _ _).mono ?_;rintro e w' ⟨rfl,hw'⟩;have hw2:=hw'.symm;subst hw2)
           | (go_at_call 110;refine (CH.out _ hK2).mono ?_;rintro e w1 ⟨v1,rfl,k1⟩;have kk1:Keeps w w1:=hK2.trans k1)
           | (go_at_call 111;refine (WS.out _ kk1).mono ?_;rintro e w2 ⟨rfl,k2⟩;have kk2:Keeps w w2:=kk1.trans k2))
          exact ⟨⟨j+1,by omega,by go_num,kk2,fun t y ht hy=>by
           by_cases e:t=j
           ·subst e;rw [Hx.out] at hy;cases hy;exact Hr.out
           ·exact HW.out t y (by omega) hy⟩,by simp only [intOf];omega⟩
        ·have hq1:(q==1)=false:=by simp at c5;simp;omega
         have Hr:Hid (qax ls=false):=qc7 Hl.out (qdN Hx.out (by rw [HB.out,hq1];simp))
         go_wp2_with (first
          | (go_at_call 27;refine (qag _ _ _ _).mono ?_;rintro e w' ⟨rfl,hw'⟩;have hw2:=hw'.symm;subst hw2)
          | (go_at_call 110;refine (CH.out _ hK2).mono ?_;rintro e w1 ⟨v1,rfl,k1⟩;have kk1:Keeps w w1:=hK2.trans k1)
          | (go_at_call 111;refine (WS.out _ kk1).mono ?_;rintro e w2 ⟨rfl,k2⟩;have kk2:Keeps w w2:=kk1.trans k2))
         go_ret
         exact ⟨by rw [Hr.out];rfl,kk2⟩
      ·have e:j=m:=by omega
       subst e
       have Hk:Hid (qbz ls l=true):=qg5 C1.out C2.out fun t x hx=>HW.out t x (by have:=qaw hx;rw [Hm.out] at this;exact this) hx
       go_wp2
       exact ⟨⟨k+1,by omega,by go_num,hK2,fun t y ht hy=>by
        by_cases e:t=k
        ·subst e;rw [Hl.out] at hy;cases hy;exact Hk.out
        ·exact H.out t y (by omega) hy⟩,by simp only [intOf];omega⟩
  ·have e:k=n:=by omega
   subst e
   have Hr:Hid (qax ls=true):=qlt (by rw [Hn.out];omega) fun j l hl=>H.out j l (by have:=qaw hl;rw [Hn.out] at this;exact this) hl
   go_wp2
   go_ret
   exact ⟨by rw [Hr.out];rfl,hK⟩
end Go.Proofs.YteagpjlgjfaclaaGreatDoor
