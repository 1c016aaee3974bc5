/-
  The program's locks: who waits where, and what follows from
  The walks of the exact laws of chapter 9 that hand back a n
  The walk of FnExactSysOk, over a contract of the program's
  What a right system is, limb by limb; it is small.
  The program's locks: what is right of them, chains, owners.
-/
import Derived.Test.YteagpjlgjfaclaaGreatDoorFairList
import Derived.Test.YteagpjlgjfaclaaGreatDoorCur
import Derived.WalkMore
import Derived.Test.YteagpjlgjfaclaaGreatDoorSysCopy
import Derived.Test.YteagpjlgjfaclaaGreatDoorSysLocks
import Derived.Test.YteagpjlgjfaclaaGreatDoorCallLaws
import Derived.Deep.RegionHeld3
import Derived.Test.YteagpjlgjfaclaaGreatDoorErrAs
import Derived.Test.YteagpjlgjfaclaaGreatDoorLockAsk
import Derived.Test.YteagpjlgjfaclaaGreatDoorLockCopy
namespace Go.Proofs.YteagpjlgjfaclaaGreatDoor
set_option maxRecDepth 100000
open Go.RowKit
variable {p:Bool}
attribute [local go_sem] aa.refl aa.alloc aa.drew aa.drewN
theorem nc (w:World):(zeroValue 3).run Tryz.prog w = .ok (.int .i64 0) w:=by kernel_rfl
set_option maxHeartbeats 1000000 in
theorem FC (a:Option Addr) (cap:Nat) (ls:List Lk) (w:World) (hl:bR ls <= 2097152) (hs:dL p w a ls) :
  Calls Tryz.prog 123 #[.slice a ls.length cap] w fun e w'=>e = .returned (.int .i64 (bD ls)) /\ aa w w':=by
 have HL:Hid (bR ls <= 2097152):=hl
 have hl0:ls.length <= 2097152:=by unfold bR at hl;omega
 clear hl
 generalize hn:ls.length=n at hl0
 have Hn:Hid (ls.length=n):=hn
 clear hn
 go_enter Tryz.func123,Tryz.ntmps123
 go_wp2
 go_loopw [3,8] (fun c i wr=>∃ (k q:Nat),k <= n /\ i = .int .i64 k /\ c = .int .i64 q /\ Hid (bD (ls.take k)=q) /\ q <= 2097152 /\ aa w wr) (fun _ i _=>n - (intOf i).toNat)
 case atStart=>exact ⟨0,0,Nat.zero_le _,rfl,rfl,by show _=_;simp [bD],by omega,aa.refl _⟩
 case round =>
  obtain ⟨k,q,hk,rfl,rfl,Hq,hq1,hK⟩:=hrel
  by_cases hlt:k < n
  ·obtain ⟨l,hl1⟩:=cd (xs:=ls) (k:=k) (by rw [Hn.out];exact hlt)
   obtain ⟨b,off,a',cap',rfl,r0,r1,hle,hns⟩:=hs.at hl1
   have hlt':(k:Int) < (n:Int):=by omega
   have Hl:Hid (ls[k]?=some l):=hl1
   have hw2:Hid (q+l.waits.length <= 2097152):=by
    show _ <= _
    have h1:=pL hl1
    have h2:=tY ls (k+1)
    have h4:=HL.out
    rw [Hq.out] at h1
    unfold bR at h4
    omega
   clear hl1 hle hns hs
   obtain ⟨m,Hm⟩:∃ m:Nat,Hid (l.waits.length=m):=⟨_,rfl⟩
   have hm2:q+m <= 2097152:=by rw [<- Hm.out];exact hw2.out
   rw [Hm.out] at r1
   go_wp2
   exact ⟨⟨k+1,q+m,by omega,by go_num,by go_num,by show _=_;rw [pL Hl.out,Hq.out,Hm.out],by omega,hK.alloc _⟩,by simp only [intOf];omega⟩
  ·have e:k=n:=by omega
   subst e
   have Hr:Hid (bD ls=q):=by show _=_;rw [<- Hq.out,<- Hn.out,List.take_length]
   go_wp2
   go_ret
   exact ⟨by rw [Hr.out];rfl,hK⟩
set_option maxHeartbeats 4000000 in
theorem yi (a:Option Addr) (cap:Nat) (ls:List Lk) (w:World) (hl:bR ls <= 2097152) (hs:dL p w a ls) :
  Calls Tryz.prog 42 #[.slice a ls.length cap] w fun e w'=>e = .returned (.map (some w.heap.size)) /\ bL w' w.heap.size (eg ls) /\ aa w w':=by
 have HL:Hid (bR ls <= 2097152):=hl
 have hl0:ls.length <= 2097152:=by unfold bR at hl;omega
 clear hl
 have HS:Hid (dL p w a ls):=hs
 clear hs
 generalize hn:ls.length=n at hl0
 have Hn:Hid (ls.length=n):=hn
 clear hn
 have hmm := @run_makeMap Tryz.prog
 go_enter Tryz.func42,Tryz.ntmps42
 go_wp2
 clear hmm
 have kz:Hid (aa w (w.alloc (.map #[] 0))):=(aa.refl _).alloc _
 have M0:Hid (bL (w.alloc (.map #[] 0)) w.heap.size []):=bL.made w
 generalize w.alloc (.map #[] 0)=W at *
 go_loopw [13] (fun i wr=>∃ (k:Nat),k <= n /\ i = .int .i64 k /\ Hid (bL wr w.heap.size (fH ls k)) /\ aa w wr) (fun i _=>n - (intOf i).toNat)
 case atStart=>exact ⟨0,Nat.zero_le _,rfl,M0,kz.out⟩
 case round =>
  obtain ⟨k,hk,rfl,M,hK⟩:=hrel
  clear M0 kz
  by_cases hlt:k < n
  ·obtain ⟨l,hl1⟩:=cd (xs:=ls) (k:=k) (by rw [Hn.out];exact hlt)
   obtain ⟨b,off,a',cap',rfl,r0,r1,hle,hns⟩:=HS.out.at hl1
   have hlt':(k:Int) < (n:Int):=by omega
   have Hl:Hid (ls[k]?=some l):=hl1
   have hw1:Hid (l.waits.length <= 2097152):=by show _ <= _;have:=lh hl1;have:=HL.out;unfold bR at this;omega
   clear hl1 hle
   obtain ⟨m,Hm⟩:∃ m:Nat,Hid (l.waits.length=m):=⟨_,rfl⟩
   have hm1:m <= 2097152:=by rw [<- Hm.out];exact hw1.out
   rw [Hm.out] at r1
   have M1:Hid (∀ o,bL (wr.alloc o) w.heap.size (fH ls k)):=fun o=>M.out.keeps ((aa.refl wr).alloc o)
   go_wp2
   go_loopw [21] (fun i w2=>∃ (j:Nat),j <= m /\ i = .int .i64 j /\ Hid (bL w2 w.heap.size (dI k (fH ls k) (l.waits.take j))) /\ aa w w2) (fun i _=>m - (intOf i).toNat)
   case atStart=>exact ⟨0,Nat.zero_le _,rfl,M1.out _,hK.alloc _⟩
   case round =>
    obtain ⟨j,hj,rfl,M2,hK2⟩:=hrel
    clear M M1
    by_cases hlt2:j < m
    ·obtain ⟨x,hx⟩:=cd (xs:=l.waits) (k:=j) (by rw [Hm.out];exact hlt2)
     obtain ⟨b2,jq,rfl,x0⟩:=hns.at hx
     have hlt3:(j:Int) < (m:Int):=by omega
     have Hx:Hid (l.waits[j]?=some x):=hx
     clear hns hx
     obtain ⟨E,HE⟩:∃ E,Hid (dI k (fH ls k) (l.waits.take j)=E):=⟨_,rfl⟩
     rw [HE.out] at M2
     have HN:Hid (dI k (fH ls k) (l.waits.take (j+1))=dM k E x):=by show _=_;rw [DW Hx.out,HE.out]
     obtain ⟨v,Hv⟩:∃ v,Hid (fQ E x=v):=⟨_,rfl⟩
     cases hq:dN E x
     ·have Hq:Hid (eF E x=none):=by show _=_;unfold dN at hq;simpa using hq
      have HQ:Hid (dN E x=false):=hq
      have HA:Hid (dM k E x=E++[(x,(k:Int))]):=by show _=_;unfold dM;rw [hq];rfl
      clear hq
      go_wp2_with (first
       | (at_lookup;refine nd rfl _ _ 77 rfl 3 3 Tryz.underlying77 Tryz.underlying3 (nc _) w.heap.size E rfl M2.out x rfl v false Hv.out HQ.out ?_)
       | (at_mapUpdate;refine FD rfl _ _ _ 77 rfl 3 3 Tryz.underlying77 Tryz.underlying3 w.heap.size E rfl M2.out x k rfl rfl Hq.out ?_;intro w5 m5 g5;have M5:Hid (bL w5 w.heap.size (E++[(x,(k:Int))])):=m5;have K5:Hid (aa w w5):=hK2.grown g5 (by rintro q ⟨⟩;exact Nat.le_refl _);clear m5 g5))
      exact ⟨⟨j+1,by omega,by go_num,by show bL _ _ _;rw [HN.out,HA.out];exact M5.out,K5.out⟩,by simp only [intOf];omega⟩
     ·have HQ:Hid (dN E x=true):=hq
      have HA:Hid (dM k E x=E):=by show _=_;unfold dM;rw [hq];rfl
      clear hq
      go_wp2_with (first
       | (at_lookup;refine nd rfl _ _ 77 rfl 3 3 Tryz.underlying77 Tryz.underlying3 (nc _) w.heap.size E rfl M2.out x rfl v true Hv.out HQ.out ?_))
      exact ⟨⟨j+1,by omega,by go_num,by show bL _ _ _;rw [HN.out,HA.out];exact M2.out,hK2⟩,by simp only [intOf];omega⟩
    ·have e:j=m:=by omega
     subst e
     have HN:Hid (fH ls (k+1)=dI k (fH ls k) (l.waits.take j)):=by show _=_;rw [tt Hl.out,<- Hm.out,List.take_length]
     go_wp2
     exact ⟨⟨k+1,by omega,by go_num,by show bL _ _ _;rw [HN.out];exact M2.out,hK2⟩,by simp only [intOf];omega⟩
  ·have e:k=n:=by omega
   subst e
   have HR:Hid (fH ls k=eg ls):=by show _=_;unfold eg;rw [Hn.out]
   rw [HR.out] at M
   go_wp2
   go_ret
   exact ⟨rfl,M.out,hK⟩
def yj:Value->Nat
 | .slice _ n _=>n
 | _=>0
set_option maxHeartbeats 4000000 in
theorem FE (B:Nat) (a:Option Addr) (cap:Nat) (ls:List Lk) (no:Int) (w:World) (hl:ls.length <= 2097152) (hs:dL p w a ls) (hm:bL w B (eg ls)) :
  Calls Tryz.prog 76 #[.map (some B),.int .i64 no,.slice a ls.length cap] w fun e w'=>∃ v,e = .returned (.tuple #[v,.bool (cB ls (ls.length+1) no).2]) /\ ((cB ls (ls.length+1) no).2=true->aS w' w.heap.size v (cB ls (ls.length+1) no).1) /\ aa w w':=by
 have HS:Hid (dL p w a ls):=hs
 have HM:Hid (bL w B (eg ls)):=hm
 clear hs hm
 generalize hn:ls.length=n at hl
 have Hn:Hid (ls.length=n):=hn
 clear hn
 obtain ⟨C,HC⟩:∃ C,Hid (cB ls (n+1) no=C):=⟨_,rfl⟩
 rw [HC.out]
 go_enter Tryz.func76,Tryz.ntmps76
 go_wp2
 go_step3
 go_wp2
 go_step3
 go_wp2
 have kz:Hid (aa w (w.alloc (.cells #[.int .i64 no] 3))):=(aa.refl _).alloc _
 have dC:Hid (aS (w.alloc (.cells #[.int .i64 no] 3)) w.heap.size (.slice (some ⟨w.heap.size,0,none⟩) 1 1) ([]++[no])):=World.ownsRow_lit w #[.int .i64 no] 1 (Nat.le_refl _) (by unfold maxLen;omega) rfl
 generalize w.alloc (.cells #[.int .i64 no] 3)=W at *
 go_loopw [1,8] (fun c v wr=>∃ (done:List Int) (cur:Int),done.length <= n /\ c = .int .i64 cur /\ Hid (aS wr w.heap.size v (done++[cur])) /\ aa w wr /\ Hid (C=(done++(cB ls (n+1 - done.length) cur).1,(cB ls (n+1 - done.length) cur).2))) (fun _ v _=>n+1 - yj v)
 case atStart=>exact ⟨[],no,Nat.zero_le _,rfl,dC,kz.out,by show _=_;rw [<- HC.out];simp⟩
 case round =>
  obtain ⟨done,cur,hd,rfl,own,hK,HI⟩:=hrel
  clear dC kz
  obtain ⟨k,Hk⟩:∃ k,Hid (done.length=k):=⟨_,rfl⟩
  have hd':k <= n:=by rw [<- Hk.out];exact hd
  clear hd
  rw [Hk.out] at HI
  obtain ⟨av,cv,ev,-,-,-⟩:=aS.ns own.out
  have el:Hid ((done++[cur]).length=k+1):=by show _=_;simp [Hk.out]
  rw [el.out] at ev
  subst ev
  obtain ⟨f,Hf⟩:∃ f,Hid (n+1 - k=f+1):=⟨n - k,by show _=_;omega⟩
  have HI2:Hid (C=(done++(cB ls (f+1) cur).1,(cB ls (f+1) cur).2)):=by show _=_;rw [<- Hf.out];exact HI.out
  have MM:Hid (bL wr B (eg ls)):=HM.out.keeps hK
  cases hx:da ls cur with
  | none =>
   have HQ:Hid (dN (eg ls) cur=false):=wV hx
   obtain ⟨v,Hv⟩:∃ v,Hid (fQ (eg ls) cur=v):=⟨_,rfl⟩
   have HR:Hid (C=(done++[cur],true)):=by show _=_;rw [HI2.out,ox hx]
   go_wp2_with (first
    | (at_lookup;refine nd rfl _ _ 77 rfl 3 3 Tryz.underlying77 Tryz.underlying3 (nc _) B (eg ls) rfl MM.out cur rfl v false Hv.out HQ.out ?_))
   rw [Exit.noGoto_ret]
   go_ret2
   exact ⟨_,by rw [HR.out];rfl,fun _=>by rw [HR.out];exact own.out,hK⟩
  | some i =>
   have HQ:Hid (dN (eg ls) cur=true):=(re hx).1
   have Hv:Hid (fQ (eg ls) cur=(i:Int)):=(re hx).2
   obtain ⟨l,hl1,-,-⟩:=qc2 hx
   have Hi:Hid (i < n):=by show _ < _;have:=cZ hl1;rw [Hn.out] at this;exact this
   have hi1:(i:Int) < (n:Int):=by have:=Hi.out;omega
   obtain ⟨b,off,a',cap',rfl,r0,r1,-,-⟩:=HS.out.at hl1
   have HR:Hid (C=((done++[cur])++(cB ls f l.owner).1,(cB ls f l.owner).2)):=by
    show _=_
    rw [HI2.out,oy hx,iP hl1]
    simp
   clear hl1 r1
   by_cases hlt:k < n
   ·have hlt':¬ ((n:Int) < (k:Int)+1):=by omega
    have hlt2:decide ((n:Int) < (k:Int)+1)=false:=by simpa using hlt'
    go_wp2_with (first
     | (at_lookup;refine nd rfl _ _ 77 rfl 3 3 Tryz.underlying77 Tryz.underlying3 (nc _) B (eg ls) rfl MM.out cur rfl (i:Int) true Hv.out HQ.out ?_)
     | (at_builtin;(refine ib rfl _ _ 27 rfl w 3 (.int .i64 0) 1 8 ic Tryz.underlying27 (by kernel_rfl) rfl (by decide) fq kV _ (done++[cur]) rfl wr own.out hK ((aa.refl _).alloc _) l.owner _ 1 (aq.new _ _ _) rfl ?c1 ?c2 ?_)))
    case c1=>have:=Hk.out;unfold maxLen;omega
    case c2=>have:=Hk.out;omega
    intro v' w5 cz k5 _
    have HO:Hid (aS w5 w.heap.size v' (done++[cur]++[l.owner])):=by show aS _ _ _ _;simpa using cz
    clear cz own
    go_wp2
    refine ⟨⟨done++[cur],l.owner,by rw [el.out];omega,rfl,HO,k5,?_⟩,?_⟩
    ·show _=_
     rw [HR.out,el.out,show n+1 - (k+1)=f from by have:=Hf.out;omega]
    ·obtain ⟨a6,c6,e6,-,-,-⟩:=aS.ns HO.out
     rw [e6,List.length_append,el.out]
     simp only [yj,List.length_singleton]
     omega
   ·have e:k=n:=by omega
    have hlt':((n:Int) < (k:Int)+1):=by omega
    have nf:Hid (C.2=false):=by show _=_;rw [HR.out,show f=0 from by have:=Hf.out;omega];rfl
    go_wp2_with (first
     | (at_lookup;refine nd rfl _ _ 77 rfl 3 3 Tryz.underlying77 Tryz.underlying3 (nc _) B (eg ls) rfl MM.out cur rfl (i:Int) true Hv.out HQ.out ?_))
    rw [Exit.noGoto_ret]
    go_ret2
    exact ⟨_,by rw [nf.out];rfl,fun h=>(by rw [nf.out] at h;cases h),hK⟩
section
attribute [local go_sem] aa.refl aa.alloc aa.drew aa.drewN
def Fi:Prop:=∀ (w:World) (v:Sv) (s:Sy) (i no:Int),aA w v s->Calls Tryz.prog 156 #[.agg (ae s v),.int .i64 i,.int .i64 no] w fun e w'=>e = .returned (.bool (ew s i no)) /\ aa w w'
def FF:Prop:=∀ (w:World) (v:Sv) (s:Sy),dm w->aA w v s->Calls Tryz.prog 8 #[.agg (ae s v)] w fun e w'=>e = .returned (.bool (aY s)) /\ aa w w'
end
structure cx (s:Sy):Prop where
 now:0 <= s.now /\ s.now <= 100000
 az:1 <= s.az /\ s.az <= 4
 tasks:dz s.tasks=true
 ak:gQ s=true
 af:iX s=true
 ax:(s.ax.length:Int)=s.az
 seq:0 <= s.seq /\ s.seq <= 1000000
 missed:0 <= s.missed /\ s.missed <= 100000
 trace:s.trace.length <= 400
 on:∀ t∈s.tasks,t.cpu < s.az
 cpu:∀ c:Nat,(c:Int) < s.az->fA s c=true
theorem kQ {s:Sy}:aY s=true↔cx s:=by
 unfold aY jE
 simp only [Bool.and_eq_true,dq,List.all_eq_true,decide_eq_true_eq,beq_iff_eq,List.mem_range]
 constructor
 ·rintro ⟨⟨h1,h2,h3,h4,h5,h6,h7,h8,h9⟩,h10,h11⟩
  exact ⟨h1,h2,h3,h4,h5,h6,h7,h8,h9,h10,fun c hc=>h11 c (by omega)⟩
 ·intro h
  exact ⟨⟨h.now,h.az,h.tasks,h.ak,h.af,h.ax,h.seq,h.missed,h.trace⟩,h.on,fun c hc=>h.cpu c (by omega)⟩
theorem x8 {t:ar} (h:bN t=true):0 <= t.cpu /\ t.cpu <= 3:=by
 unfold bN at h
 simp only [Bool.and_eq_true,dq] at h
 exact h.1.1.1.2
theorem cx.jZ {s:Sy} (h:cx s):oz s:=by
 intro t ht
 obtain ⟨i,hi⟩:=List.mem_iff_getElem?.1 ht
 have:=x8 (tC h.tasks hi)
 have:=h.on t ht
 have:=h.ax
 omega
theorem cx.few {s:Sy} (h:cx s):s.tasks.length <= 12 /\ bR s.ak <= 1005 /\ s.af.length <= 12 /\ s.ax.length <= 4:=by
 have h1:=tZ h.tasks
 have h2:=h.ak
 unfold gQ at h2
 simp only [Bool.and_eq_true,beq_iff_eq] at h2
 have h3:=(pM.1 h2.2.1).few
 have h4:=h.af
 unfold iX at h4
 simp only [Bool.and_eq_true,decide_eq_true_eq] at h4
 have h5:=h.ax
 have h6:=h.az
 refine ⟨h1,?_,h4.2,by omega⟩
 unfold bR
 omega
theorem cx.small {s:Sy} (h:cx s):bE s <= 1500:=by
 obtain ⟨h1,h2,h3,h4⟩:=h.few
 have:=h.trace
 unfold bE
 omega
variable {p:Bool}
attribute [local go_sem] aa.refl aa.alloc aa.drew aa.drewN
theorem FG {l:Lk} {k:Nat} {x:Int} (hx:l.waits[k]?=some x) (h:aH x 1 1000=false):gI l=false:=by
 unfold gI
 have:l.waits.all (fun x=>aH x 1 1000)=false:=by
  rw [List.all_eq_false]
  exact ⟨x,List.mem_of_getElem? hx,by rw [h];simp⟩
 rw [this];rfl
theorem FH {l:Lk} (H:∀ (j:Nat) (x:Int),l.waits[j]?=some x->aH x 1 1000=true):gI l=(aH l.owner 0 1000&&(!(l.owner==0)||l.waits.length==0)):=by
 unfold gI
 have:l.waits.all (fun x=>aH x 1 1000)=true:=by
  rw [List.all_eq_true]
  intro x hx
  obtain ⟨j,hj,rfl⟩:=List.mem_iff_getElem.1 hx
  exact H j _ (List.getElem?_eq_getElem hj)
 rw [this];rfl
set_option maxHeartbeats 2000000 in
theorem FI (o:Int) (a:Option Addr) (cap:Nat) (xs:List Int) (w:World) (hl:xs.length <= maxLen) (hs:Ns w a xs) :
  Calls Tryz.prog 160 #[.agg #[.int .i64 o,.slice a xs.length cap]] w fun e w'=>e = .returned (.bool (gI ⟨o,xs⟩)) /\ aa w w':=by
 unfold maxLen at hl
 generalize hn:xs.length=n at hl
 have Hn:Hid (xs.length=n):=hn
 clear hn
 go_enter Tryz.func160,Tryz.ntmps160
 go_wp2
 go_loopw [8] (fun i wr=>∃ k:Nat,k <= n /\ i = .int .i64 k /\ wr=w.alloc (.cells #[.int .i64 o,.slice a n cap] 37) /\ Hid (∀ (j:Nat) (y:Int),j < k->xs[j]?=some y->aH y 1 1000=true)) (fun i _=>n - (intOf i).toNat)
 case atStart=>exact ⟨0,Nat.zero_le _,rfl,rfl,fun j y hj=>by omega⟩
 case round =>
  obtain ⟨k,hk,rfl,rfl,H⟩:=hrel
  by_cases hlt:k < n
  ·obtain ⟨y,hy⟩:=cd (xs:=xs) (k:=k) (by rw [Hn.out];exact hlt)
   obtain ⟨b,off,rfl,r0⟩:=hs.at hy
   have hlt':(k:Int) < (n:Int):=by omega
   have Hy:Hid (xs[k]?=some y):=hy
   clear hs hy
   cases hq:aH y 1 1000
   ·have Hr:Hid (gI ⟨o,xs⟩=false):=FG (l:=⟨o,xs⟩) Hy.out hq
    go_wp2_with (go_at_call 105;refine (eW _ _ _ _).mono ?_;rintro e w' ⟨rfl,hw'⟩;have hw2:=hw'.symm;subst hw2;rw [hq])
    go_ret
    exact ⟨by rw [Hr.out];rfl,(aa.refl _).alloc _⟩
   ·go_wp2_with (go_at_call 105;refine (eW _ _ _ _).mono ?_;rintro e w' ⟨rfl,hw'⟩;have hw2:=hw'.symm;subst hw2;rw [hq])
    exact ⟨⟨k+1,by omega,by go_num,by first | rfl | trivial,fun j s hj hs=>by
     by_cases e:j=k
     ·subst e;rw [Hy.out] at hs;cases hs;exact hq
     ·exact H.out j s (by omega) hs⟩,by simp only [intOf];omega⟩
  ·have Hr:Hid (gI ⟨o,xs⟩=(aH o 0 1000&&(!(o==0)||n==0))):=by
    show _=_
    rw [FH (l:=⟨o,xs⟩) fun j y hy=>H.out j y (by have:=cZ hy;rw [Hn.out] at this;omega) hy]
    simp only [Hn.out]
   clear H
   cases hq:aH o 0 1000
   ·have Hz:Hid (gI ⟨o,xs⟩=false):=by show _=_;rw [Hr.out,hq];rfl
    go_wp2_with (go_at_call 105;refine (eW _ _ _ _).mono ?_;rintro e w' ⟨rfl,hw'⟩;have hw2:=hw'.symm;subst hw2;rw [hq])
    go_ret
    exact ⟨by rw [Hz.out];rfl,(aa.refl _).alloc _⟩
   ·have ng:(o==0) = !(o != 0):=by simp [bne]
    cases h0:(o != 0)
    ·cases h1:((n:Int)==0)
     ·have Hz:Hid (gI ⟨o,xs⟩=false):=by show _=_;rw [Hr.out,hq,ng,h0];simp at h1 ⊢;omega
      go_wp2_with (go_at_call 105;refine (eW _ _ _ _).mono ?_;rintro e w' ⟨rfl,hw'⟩;have hw2:=hw'.symm;subst hw2;rw [hq])
      go_ret
      exact ⟨by rw [Hz.out];rfl,(aa.refl _).alloc _⟩
     ·have Hz:Hid (gI ⟨o,xs⟩=true):=by show _=_;rw [Hr.out,hq,ng,h0];simp at h1 ⊢;omega
      go_wp2_with (go_at_call 105;refine (eW _ _ _ _).mono ?_;rintro e w' ⟨rfl,hw'⟩;have hw2:=hw'.symm;subst hw2;rw [hq])
      go_ret
      exact ⟨by rw [Hz.out];rfl,(aa.refl _).alloc _⟩
    ·have Hz:Hid (gI ⟨o,xs⟩=true):=by show _=_;rw [Hr.out,hq,ng,h0];rfl
     go_wp2_with (go_at_call 105;refine (eW _ _ _ _).mono ?_;rintro e w' ⟨rfl,hw'⟩;have hw2:=hw'.symm;subst hw2;rw [hq])
     go_ret
     exact ⟨by rw [Hz.out];rfl,(aa.refl _).alloc _⟩
def ke (ls:List Lk):Bool:=ls.all gI
theorem FJ {ls:List Lk} {k:Nat} {l:Lk} (hl:ls[k]?=some l) (h:gI l=false):ke ls=false:=by
 unfold ke
 rw [List.all_eq_false]
 exact ⟨l,List.mem_of_getElem? hl,by rw [h];simp⟩
theorem FK {ls:List Lk} (H:∀ (j:Nat) (l:Lk),ls[j]?=some l->gI l=true):ke ls=true:=by
 unfold ke
 rw [List.all_eq_true]
 intro l hl
 obtain ⟨j,hj,rfl⟩:=List.mem_iff_getElem.1 hl
 exact H j _ (List.getElem?_eq_getElem hj)
set_option maxHeartbeats 2000000 in
theorem FM (a:Option Addr) (cap:Nat) (ls:List Lk) (w:World) (hl:ls.length <= maxLen) (hs:dL p w a ls) :
  Calls Tryz.prog 122 #[.slice a ls.length cap] w fun e w'=>e = .returned (.bool (ke ls)) /\ aa w w':=by
 unfold maxLen at hl
 generalize hn:ls.length=n at hl
 have Hn:Hid (ls.length=n):=hn
 clear hn
 go_enter Tryz.func122,Tryz.ntmps122
 go_wp2
 go_loopw [7] (fun i wr=>∃ k:Nat,k <= n /\ i = .int .i64 k /\ aa w wr /\ Hid (∀ (j:Nat) (m:Lk),j < k->ls[j]?=some m->gI m=true)) (fun i _=>n - (intOf i).toNat)
 case atStart=>exact ⟨0,Nat.zero_le _,rfl,aa.refl _,fun j y hj=>by omega⟩
 case round =>
  obtain ⟨k,hk,rfl,hK,H⟩:=hrel
  by_cases hlt:k < n
  ·obtain ⟨l,hl1⟩:=cd (xs:=ls) (k:=k) (by rw [Hn.out];exact hlt)
   obtain ⟨b,off,a',cap',rfl,r0,r1,hle,hns⟩:=hs.at hl1
   have hlt':(k:Int) < (n:Int):=by omega
   have Hl:Hid (ls[k]?=some l):=hl1
   have lF:Hid (l.waits.length <= maxLen):=hle
   have N1:Hid (Ns w a' l.waits):=hns
   clear hs hl1 hle hns
   obtain ⟨q,Hq⟩:∃ q,Hid (gI l=q):=⟨_,rfl⟩
   have C1:∀ o,Calls Tryz.prog 160 #[.agg #[.int .i64 l.owner,.slice a' l.waits.length cap']] (wr.alloc o) fun e w'=>e = .returned (.bool q) /\ aa (wr.alloc o) w':=fun o=>by
    have:=FI l.owner a' cap' l.waits (wr.alloc o) lF.out (N1.out.keeps (hK.alloc o))
    rwa [show (⟨l.owner,l.waits⟩:Lk)=l from rfl,Hq.out] at this
   have yk:Hid (∀ o,Calls Tryz.prog 160 #[.agg #[.int .i64 l.owner,.slice a' l.waits.length cap']] (wr.alloc o) fun e w'=>e = .returned (.bool q) /\ aa (wr.alloc o) w'):=C1
   clear C1
   cases q
   ·have Hr:Hid (ke ls=false):=FJ Hl.out Hq.out
    go_wp2_with (go_at_call 160;refine (yk.out _).mono ?_;rintro e w1 ⟨rfl,k1⟩)
    go_ret
    exact ⟨by rw [Hr.out];rfl,(hK.alloc _).trans k1⟩
   ·go_wp2_with (go_at_call 160;refine (yk.out _).mono ?_;rintro e w1 ⟨rfl,k1⟩)
    exact ⟨⟨k+1,by omega,by go_num,(hK.alloc _).trans k1,fun j s hj hs=>by
     by_cases e:j=k
     ·subst e;rw [Hl.out] at hs;cases hs;exact Hq.out
     ·exact H.out j s (by omega) hs⟩,by simp only [intOf];omega⟩
  ·have Hr:Hid (ke ls=true):=FK fun j m hm=>H.out j m (by have:=cZ hm;rw [Hn.out] at this;omega) hm
   go_wp2
   go_ret
   exact ⟨by rw [Hr.out];rfl,hK⟩
def jr (ls:List Lk):Bool:=ls.all fun l=>(cB ls (ls.length+1) l.owner).2
theorem FO {ls:List Lk} {k:Nat} {l:Lk} (hl:ls[k]?=some l) (h:(cB ls (ls.length+1) l.owner).2=false):jr ls=false:=by
 unfold jr
 rw [List.all_eq_false]
 exact ⟨l,List.mem_of_getElem? hl,by rw [h];simp⟩
theorem FP {ls:List Lk} (H:∀ (j:Nat) (l:Lk),ls[j]?=some l->(cB ls (ls.length+1) l.owner).2=true):jr ls=true:=by
 unfold jr
 rw [List.all_eq_true]
 intro l hl
 obtain ⟨j,hj,rfl⟩:=List.mem_iff_getElem.1 hl
 exact H j _ (List.getElem?_eq_getElem hj)
set_option maxHeartbeats 2000000 in
theorem FQ (B:Nat) (a:Option Addr) (cap:Nat) (ls:List Lk) (w:World) (hl:ls.length <= 2097152) (hs:dL p w a ls) (hm:bL w B (eg ls)) :
  Calls Tryz.prog 124 #[.slice a ls.length cap,.map (some B)] w fun e w'=>e = .returned (.bool (jr ls)) /\ aa w w':=by
 have HS:Hid (dL p w a ls):=hs
 have CF:Hid (∀ no w',aa w w'->Calls Tryz.prog 76 #[.map (some B),.int .i64 no,.slice a ls.length cap] w' fun e w''=>∃ v,e = .returned (.tuple #[v,.bool (cB ls (ls.length+1) no).2]) /\ ((cB ls (ls.length+1) no).2=true->aS w'' w'.heap.size v (cB ls (ls.length+1) no).1) /\ aa w' w''):=fun no w' k=>FE B a cap ls no w' hl (hs.keeps k) (hm.keeps k)
 clear hs hm
 have HE:Hid (∀ (k:Nat) (l:Lk),ls[k]?=some l->(cB ls (ls.length+1) l.owner).2=false->jr ls=false):=fun k l=>FO
 have HO:Hid ((∀ (j:Nat) (l:Lk),ls[j]?=some l->(cB ls (ls.length+1) l.owner).2=true)->jr ls=true):=FP
 generalize hn:ls.length=n at *
 have Hn:Hid (ls.length=n):=hn
 clear hn
 go_enter Tryz.func124,Tryz.ntmps124
 go_wp2
 go_loopw [11] (fun i wr=>∃ k:Nat,k <= n /\ i = .int .i64 k /\ aa w wr /\ Hid (∀ (j:Nat) (m:Lk),j < k->ls[j]?=some m->(cB ls (n+1) m.owner).2=true)) (fun i _=>n - (intOf i).toNat)
 case atStart=>exact ⟨0,Nat.zero_le _,rfl,aa.refl _,fun j y hj=>by omega⟩
 case round =>
  obtain ⟨k,hk,rfl,hK,H⟩:=hrel
  by_cases hlt:k < n
  ·obtain ⟨l,hl1⟩:=cd (xs:=ls) (k:=k) (by rw [Hn.out];exact hlt)
   obtain ⟨b,off,a',cap',rfl,r0,r1,-,-⟩:=HS.out.at hl1
   have hlt':(k:Int) < (n:Int):=by omega
   have Hl:Hid (ls[k]?=some l):=hl1
   clear hl1
   obtain ⟨q,Hq⟩:∃ q,Hid ((cB ls (n+1) l.owner).2=q):=⟨_,rfl⟩
   have C1:Hid (∀ o,Calls Tryz.prog 76 #[.map (some B),.int .i64 l.owner,.slice (some ⟨b,off,none⟩) n cap] (wr.alloc o) fun e w'=>∃ v,e = .returned (.tuple #[v,.bool q]) /\ aa (wr.alloc o) w'):=fun o=>by
    refine (CF.out l.owner (wr.alloc o) (hK.alloc o)).mono ?_
    rintro e w' ⟨v,rfl,-,k'⟩
    rw [Hq.out]
    exact ⟨v,rfl,k'⟩
   cases q
   ·have Hr:Hid (jr ls=false):=HE.out k l Hl.out Hq.out
    go_wp2_with (go_at_call 76;refine (C1.out _).mono ?_;rintro e w1 ⟨v,rfl,k1⟩)
    go_ret
    exact ⟨by rw [Hr.out];rfl,(hK.alloc _).trans k1⟩
   ·go_wp2_with (go_at_call 76;refine (C1.out _).mono ?_;rintro e w1 ⟨v,rfl,k1⟩)
    exact ⟨⟨k+1,by omega,by go_num,(hK.alloc _).trans k1,fun j s hj hs=>by
     by_cases e:j=k
     ·subst e;rw [Hl.out] at hs;cases hs;exact Hq.out
     ·exact H.out j s (by omega) hs⟩,by simp only [intOf];omega⟩
  ·have Hr:Hid (jr ls=true):=HO.out fun j m hm=>H.out j m (by have:=cZ hm;rw [Hn.out] at this;omega) hm
   go_wp2
   go_ret
   exact ⟨by rw [Hr.out];rfl,hK⟩
theorem FU (ls:List Lk):(decide (ls.length <= 5)&&(ke ls&&(decide ((eg ls).length=bD ls)&&jr ls)))=du ls:=Eb ls
set_option maxHeartbeats 2000000 in
theorem FV (a:Option Addr) (cap:Nat) (ls:List Lk) (w:World) (hl:bR ls <= 2097152) (hs:dL p w a ls) :
  Calls Tryz.prog 75 #[.slice a ls.length cap] w fun e w'=>e = .returned (.bool (du ls)) /\ aa w w':=by
 have hl0:ls.length <= 2097152:=by unfold bR at hl;omega
 have E1:Hid (∀ w',aa w w'->Calls Tryz.prog 122 #[.slice a ls.length cap] w' fun e w''=>e = .returned (.bool (ke ls)) /\ aa w' w''):=fun w' k=>FM a cap ls w' (by unfold maxLen;omega) (hs.keeps k)
 have E2:Hid (∀ w',aa w w'->Calls Tryz.prog 42 #[.slice a ls.length cap] w' fun e w''=>e = .returned (.map (some w'.heap.size)) /\ bL w'' w'.heap.size (eg ls) /\ aa w' w''):=fun w' k=>yi a cap ls w' hl (hs.keeps k)
 have E3:Hid (∀ w',aa w w'->Calls Tryz.prog 123 #[.slice a ls.length cap] w' fun e w''=>e = .returned (.int .i64 (bD ls)) /\ aa w' w''):=fun w' k=>FC a cap ls w' hl (hs.keeps k)
 have E4:Hid (∀ B w',aa w w'->bL w' B (eg ls)->Calls Tryz.prog 124 #[.slice a ls.length cap,.map (some B)] w' fun e w''=>e = .returned (.bool (jr ls)) /\ aa w' w''):=fun B w' k m=>FQ B a cap ls w' hl0 (hs.keeps k) m
 have HP:Hid ((decide (ls.length <= 5)&&(ke ls&&(decide ((eg ls).length=bD ls)&&jr ls)))=du ls):=FU ls
 have p3:Hid (bD ls <= 2097152):=by show _ <= _;unfold bR at hl;omega
 have Hpl:Hid ((eg ls).length <= bD ls):=(wZ ls).1
 clear hl hs
 generalize hn:ls.length=n at *
 obtain ⟨g1,G1⟩:∃ g,Hid (ke ls=g):=⟨_,rfl⟩
 obtain ⟨g2,G2⟩:∃ g,Hid (jr ls=g):=⟨_,rfl⟩
 obtain ⟨s,Hs⟩:∃ s,Hid (bD ls=s):=⟨_,rfl⟩
 obtain ⟨m,Hm⟩:∃ m,Hid ((eg ls).length=m):=⟨_,rfl⟩
 obtain ⟨E,HE⟩:∃ E,Hid (eg ls=E):=⟨_,rfl⟩
 rw [G1.out] at E1
 rw [HE.out] at E2 E4
 rw [Hs.out] at E3 p3
 rw [G2.out] at E4
 rw [G1.out,G2.out,Hs.out,Hm.out] at HP
 have yl:Hid (E.length=m):=by show _=_;rw [<- HE.out];exact Hm.out
 have hs0:s <= 2097152:=p3.out
 have hm0:m <= 2097152:=by have:=Hpl.out;rw [Hm.out,Hs.out] at this;omega
 clear hn Hpl
 by_cases h5:n <= 5
 ·have h5':decide ((5:Int) < (n:Int))=false:=by simp;omega
  have d5:decide (n <= 5)=true:=decide_eq_true h5
  cases g1
  ·have Hr:Hid (du ls=false):=by show _=_;rw [<- HP.out,d5];rfl
   go_enter Tryz.func75,Tryz.ntmps75
   go_wp2_with (go_at_call 122;refine (E1.out _ (aa.refl _)).mono ?_;rintro e w1 ⟨rfl,k1⟩)
   go_ret
   exact ⟨by rw [Hr.out];rfl,k1⟩
  ·by_cases hms:m=s
   ·have Hr:Hid (du ls=g2):=by show _=_;rw [<- HP.out,d5,decide_eq_true hms];rfl
    subst hms
    have Km:((m:Int)==(m:Int))=true:=by simp
    go_enter Tryz.func75,Tryz.ntmps75
    go_wp2_with (first
     | (go_at_call 122;refine (E1.out _ (aa.refl _)).mono ?_;rintro e w1 ⟨rfl,k1⟩)
     | (go_at_call 42;refine (E2.out _ k1).mono ?_;rintro e w2 ⟨rfl,m2,k2⟩;have K2:aa w w2:=k1.trans k2;have M2:Hid (bL w2 w1.heap.size E):=m2;have hlen:∀ ty,(Builtin.len_ #[77] ty #[.map (some w1.heap.size)]).run Tryz.prog w2 = .ok (.int .i64 m) w2:=(fun ty=>by have h:=bL.len m2 (P:=Tryz.prog) (t:=77) Tryz.underlying77 ty;rw [yl.out] at h;exact h);clear m2)
     | (go_at_call 123;refine (E3.out _ K2).mono ?_;rintro e w3 ⟨rfl,k3⟩;have K3:aa w w3:=K2.trans k3)
     | (go_at_call 124;refine (E4.out _ _ K3 (M2.out.keeps k3)).mono ?_;rintro e w4 ⟨rfl,k4⟩))
    go_ret
    exact ⟨by rw [Hr.out];rfl,K3.trans k4⟩
   ·have Hr:Hid (du ls=false):=by show _=_;rw [<- HP.out,d5,decide_eq_false hms];rfl
    have hne:((m:Int)==(s:Int))=false:=by simp;omega
    go_enter Tryz.func75,Tryz.ntmps75
    go_wp2_with (first
     | (go_at_call 122;refine (E1.out _ (aa.refl _)).mono ?_;rintro e w1 ⟨rfl,k1⟩)
     | (go_at_call 42;refine (E2.out _ k1).mono ?_;rintro e w2 ⟨rfl,m2,k2⟩;have K2:aa w w2:=k1.trans k2;have M2:Hid (bL w2 w1.heap.size E):=m2;have hlen:∀ ty,(Builtin.len_ #[77] ty #[.map (some w1.heap.size)]).run Tryz.prog w2 = .ok (.int .i64 m) w2:=(fun ty=>by have h:=bL.len m2 (P:=Tryz.prog) (t:=77) Tryz.underlying77 ty;rw [yl.out] at h;exact h);clear m2)
     | (go_at_call 123;refine (E3.out _ K2).mono ?_;rintro e w3 ⟨rfl,k3⟩;have K3:aa w w3:=K2.trans k3))
    go_ret
    exact ⟨by rw [Hr.out];rfl,K3⟩
 ·have h5':(5:Int) < (n:Int):=by omega
  have Hr:Hid (du ls=false):=by show _=_;rw [<- HP.out,decide_eq_false h5];rfl
  go_enter Tryz.func75,Tryz.ntmps75
  go_wp2
  go_ret
  exact ⟨by rw [Hr.out];rfl,aa.refl _⟩
set_option maxHeartbeats 1000000 in
theorem xQ (a:Option Addr) (cap:Nat) (ls:List Lk) (no:Int) (w:World) (hl:bR ls <= 2097152) (hs:dL p w a ls) :
  Calls Tryz.prog 15 #[.slice a ls.length cap,.int .i64 no] w fun e w'=>e = .returned (.int .i64 (dS ls no)) /\ aa w w':=by
 have E2:=yi a cap ls w hl hs
 cases hx:da ls no with
 | none =>
  have HQ:Hid (dN (eg ls) no=false):=wV hx
  obtain ⟨v,Hv⟩:∃ v,Hid (fQ (eg ls) no=v):=⟨_,rfl⟩
  have Hr:Hid (dS ls no = -1):=by show _=_;unfold dS;rw [hx]
  go_enter Tryz.func15,Tryz.ntmps15
  go_wp2_with (first
   | (go_at_call 42;refine E2.mono ?_;rintro e w2 ⟨rfl,m2,k2⟩;have M2:Hid (bL w2 w.heap.size (eg ls)):=m2;clear m2)
   | (at_lookup;refine nd rfl _ _ 77 rfl 3 3 Tryz.underlying77 Tryz.underlying3 (nc _) w.heap.size (eg ls) rfl M2.out no rfl v false Hv.out HQ.out ?_))
  go_ret
  exact ⟨by rw [Hr.out];rfl,k2⟩
 | some i =>
  have HQ:Hid (dN (eg ls) no=true):=(re hx).1
  have Hv:Hid (fQ (eg ls) no=(i:Int)):=(re hx).2
  have Hr:Hid (dS ls no=(i:Int)):=by show _=_;unfold dS;rw [hx]
  go_enter Tryz.func15,Tryz.ntmps15
  go_wp2_with (first
   | (go_at_call 42;refine E2.mono ?_;rintro e w2 ⟨rfl,m2,k2⟩;have M2:Hid (bL w2 w.heap.size (eg ls)):=m2;clear m2)
   | (at_lookup;refine nd rfl _ _ 77 rfl 3 3 Tryz.underlying77 Tryz.underlying3 (nc _) w.heap.size (eg ls) rfl M2.out no rfl (i:Int) true Hv.out HQ.out ?_))
  go_ret
  exact ⟨by rw [Hr.out];rfl,k2⟩
set_option maxHeartbeats 1000000 in
theorem xP (a:Option Addr) (cap:Nat) (ls:List Lk) (no:Int) (w:World) (hl:ls.length <= maxLen) (hs:dL p w a ls) :
  Calls Tryz.prog 14 #[.slice a ls.length cap,.int .i64 no] w fun e w'=>e = .returned (.bool (gO ls no)) /\ aa w w':=by
 unfold maxLen at hl
 generalize hn:ls.length=n at hl
 have Hn:Hid (ls.length=n):=hn
 clear hn
 cases h00:(no==0)
 rotate_left
 ·have Hr:Hid (gO ls no=false):=t6 fun j l _=>by simp at h00;simp [h00]
  go_enter Tryz.func14,Tryz.ntmps14
  go_wp2
  go_ret
  exact ⟨by rw [Hr.out];rfl,aa.refl _⟩
 have h0:Hid ((no != 0)=true):=by show _=_;simp [bne,h00]
 go_enter Tryz.func14,Tryz.ntmps14
 go_wp2
 go_loopw [11] (fun i wr=>∃ k:Nat,k <= n /\ i = .int .i64 k /\ aa w wr /\ Hid (∀ (j:Nat) (l:Lk),j < k->ls[j]?=some l->(no != 0&&l.owner==no)=false)) (fun i _=>n - (intOf i).toNat)
 case atStart=>exact ⟨0,Nat.zero_le _,rfl,aa.refl _,fun j y hj=>by omega⟩
 case round =>
  obtain ⟨k,hk,rfl,hK,H⟩:=hrel
  by_cases hlt:k < n
  ·obtain ⟨l,hl1⟩:=cd (xs:=ls) (k:=k) (by rw [Hn.out];exact hlt)
   obtain ⟨b,off,a',cap',rfl,r0,r1,-,-⟩:=hs.at hl1
   have hlt':(k:Int) < (n:Int):=by omega
   have Hl:Hid (ls[k]?=some l):=hl1
   clear hs hl1
   cases hq:(l.owner==no)
   ·go_wp2
    exact ⟨⟨k+1,by omega,by go_num,hK.alloc _,fun j s hj hs=>by
     by_cases e:j=k
     ·subst e;rw [Hl.out] at hs;cases hs;rw [hq];simp
     ·exact H.out j s (by omega) hs⟩,by simp only [intOf];omega⟩
   ·have Hr:Hid (gO ls no=true):=ym Hl.out h0.out hq
    go_wp2
    go_ret
    exact ⟨by rw [Hr.out];rfl,hK.alloc _⟩
  ·have Hr:Hid (gO ls no=false):=t6 fun j y hy=>H.out j y (by have:=cZ hy;rw [Hn.out] at this;omega) hy
   go_wp2
   go_ret
   exact ⟨by rw [Hr.out];rfl,hK⟩
end Go.Proofs.YteagpjlgjfaclaaGreatDoor
