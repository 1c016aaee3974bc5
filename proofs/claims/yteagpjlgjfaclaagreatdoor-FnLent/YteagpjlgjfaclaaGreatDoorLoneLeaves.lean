/-
  Locks: the contract of the model's asking for one.
  A call that starts no goroutine, where the row lets some be
  Rows of locks are marked, and looked at again.
  In a list of tasks each is found at its place.
  Lists of tasks are marked, and looked at again: the laws' o
  Locks: all that wait; right locks are few numbers.
  Locks: the contract of the model's freeing one.
  The walks of the exact laws of chapter 7, over contracts of
  Deadlines: the contract of one of the model's functions.
  The walks of the exact laws over lists of tasks, over contr
  The walks of the exact laws over one task, over contracts o
  Deadlines: the contract of one of the model's functions.
  An element of a row of one's own is written over.
  What would be wrong is not done.
  The walks of the exact laws of chapter 5, over contracts of
  Fair shares: a contract of the model's function.
  The walks of the exact laws over ChainOf, LockAsk and LockF
  Fair shares: a contract of the model's function.
  The walks of the exact laws of chapter 6, over contracts of
  The walks of the exact laws of chapter 4, over contracts of
  Drawn locks: the contract of the model's l7DrawRight.
  How much is left of what may be asked, once some locks are
  The system, as a plain record, and what chapter 9 asks of i
  Rows of ghosts and of turns: the laws' own helpers.
-/
import Derived.Test.YteagpjlgjfaclaaGreatDoorLockCopy
import Derived.Conc.LeavingOf
import Derived.LoneHanded
import Derived.RaceLone
import Derived.RunNT
import Derived.CallAlone
import Derived.Leaving
import Derived.Test.YteagpjlgjfaclaaGreatDoorLockSpec2
import Derived.Test.YteagpjlgjfaclaaGreatDoorImplHead
import Derived.Test.YteagpjlgjfaclaaGreatDoorTaskSpec
import Derived.Test.YteagpjlgjfaclaaGreatDoorLate
import Derived.Test.YteagpjlgjfaclaaGreatDoorDueSpec
import Derived.Test.YteagpjlgjfaclaaGreatDoorTaskPut
import Derived.Test.YteagpjlgjfaclaaGreatDoorTaskNew
import Derived.Test.YteagpjlgjfaclaaGreatDoorCur
import Derived.Test.YteagpjlgjfaclaaGreatDoorFixSpec
import Derived.Test.YteagpjlgjfaclaaGreatDoorPickPure
import Derived.Test.YteagpjlgjfaclaaGreatDoorSum
import Derived.Deep.RegionHeld3
namespace Go.Proofs.YteagpjlgjfaclaaGreatDoor
set_option maxRecDepth 100000
open Go.RowKit
section
attribute [local go_sem] aa.refl aa.alloc aa.drew aa.drewN
theorem pW {ls:List Lk} {i:Nat} {l:Lk} (h:ls[i]?=some l) (f:Lk->Lk):ls.modify i f=ls.set i (f l):=by
 apply List.ext_getElem?
 intro j
 by_cases e:i=j
 ·subst e
  rw [List.getElem?_modify,List.getElem?_set_self (da h),h]
  simp
 ·rw [List.getElem?_modify,List.getElem?_set_ne e]
  simp [e]
theorem Nd {ls:List Lk} {no:Int} (h:decide (0 <= d8 ls no)=false):d8 ls no = -1:=by
 unfold d8 at h ⊢
 split
 ·rename_i i hi;rw [hi] at h;simp at h
 ·rfl
set_option maxHeartbeats 8000000 in
theorem zb (a:Option Addr) (cap:Nat) (ls:List Lk) (i no:Int) (w:World) (hl:bT ls <= 2097152) (hs:dU true w a ls) :
  Calls Tryz.prog 150 #[.slice a ls.length cap,.int .i64 i,.int .i64 no] w fun e w'=>∃ v vs,e = .returned (.tuple #[v,.int .i64 (cl ls i no)]) /\ Mine w' w.heap.size w'.heap.size v vs (bX ls i no) /\ aa w w':=by
 have HL:Hid (bT ls <= 2097152):=hl
 have hl0:ls.length <= 2097152:=by unfold bT at hl;omega
 clear hl
 have HS:Hid (dU true w a ls):=hs
 clear hs
 have Nf:Hid (ls.length <= maxLen):=by show _ <= _;unfold maxLen;omega
 have LO:Hid (∀ w',aa w w'->Calls Tryz.prog 70 #[.slice a ls.length cap] w' fun e w''=>e = .returned (.bool (dm ls)) /\ aa w' w''):=fun w' h=>tY a cap ls w' HL.out (HS.out.keeps h)
 have CP:Hid (∀ w',aa w w'->Calls Tryz.prog 90 #[.slice a ls.length cap] w' fun e w''=>∃ v vs,e = .returned v /\ Mine w'' w'.heap.size w''.heap.size v vs ls /\ aa w' w''):=fun w' h=>wv a cap ls w' HL.out (HS.out.keeps h)
 have WA:Hid (∀ w',aa w w'->Calls Tryz.prog 84 #[.slice a ls.length cap,.int .i64 no] w' fun e w''=>e = .returned (.int .i64 (d8 ls no)) /\ aa w' w''):=fun w' h=>tW a cap ls no w' Nf.out (HS.out.keeps h)
 have CO:Hid (∀ x w',aa w w'->Calls Tryz.prog 181 #[.slice a ls.length cap,.int .i64 x] w' fun e w''=>∃ v,e = .returned v /\ aS w'' w'.heap.size v (fG ls x) /\ aa w' w''):=fun x w' h=>M9 a cap ls x w' HL.out (HS.out.keeps h)
 generalize hn:ls.length=n at hl0
 have Hn:Hid (ls.length=n):=hn
 rw [hn] at LO CP WA CO
 clear hn
 cases hb:dm ls
 ·have Hr:Hid (cl ls i no=2):=by show _=_;unfold cl;rw [hb];rfl
  have Hq:Hid (bX ls i no=[]):=by show _=_;unfold bX;rw [hb];rfl
  rw [hb] at LO
  go_enter Tryz.func150,Tryz.ntmps150
  go_wp2_with (go_at_call 70;refine (LO.out _ (aa.refl _)).mono ?_;rintro e w1 ⟨rfl,k1⟩)
  go_ret2
  refine ⟨_,[],by rw [Hr.out];rfl,?_,k1.alloc _⟩
  rw [Hq.out]
  exact Mine.none _ _ _ _ (Own.new 37 2 gk w1 k1.size) (fun q hq=>by simp [Value.ownBlock] at hq;simp;omega)
 rw [hb] at LO
 go_enter Tryz.func150,Tryz.ntmps150
 go_wp2_with (first
  | (go_at_call 70;refine (LO.out _ (aa.refl _)).mono ?_;rintro e w1 ⟨rfl,k1⟩)
  | fail)
 refine (CP.out _ k1).mono ?_
 rintro e w2 ⟨v,vs,rfl,M0,k2⟩
 have M:Hid (Mine w2 w.heap.size w2.heap.size v vs ls):=M0.widen k1.size (Nat.le_refl _)
 have K2:aa w w2:=k1.trans k2
 clear M0 k1 k2 LO CP
 have nx:IntKind.i64.wrap ((n:Int) - 1)=(n:Int) - 1:=Go.IntWalk.i64_in _ (by omega)
 have bad:∀ (h:(!aF i 0 ((n:Int) - 1)||(!aF no 1 1000||decide (0 <= d8 ls no)))=true),cl ls i no=2 /\ bX ls i no=ls:=by
  intro h
  have e1:cl ls i no=2:=by unfold cl;rw [hb,Hn.out,h];rfl
  refine ⟨e1,?_⟩
  unfold bX
  rw [hb,e1];rfl
 have jz:Hid (∀ (_:(!aF i 0 ((n:Int) - 1)||(!aF no 1 1000||decide (0 <= d8 ls no)))=true),cl ls i no=2 /\ bX ls i no=ls):=bad
 clear bad
 cases c1:aF i 0 ((n:Int) - 1)
 ·have Hr:=jz.out (by rw [c1];rfl)
  have eW:Hid (cl ls i no=2):=Hr.1
  have dS:Hid (bX ls i no=ls):=Hr.2
  clear Hr
  go_wp2_with (go_at_call 27;refine (bn _ _ _ _).mono ?_;rintro e w' ⟨rfl,hw'⟩;have hw2:=hw'.symm;subst hw2)
  go_ret2
  exact ⟨_,vs,by rw [eW.out];rfl,by rw [dS.out];exact M.out,K2⟩
 cases c2:aF no 1 1000
 ·have Hr:=jz.out (by rw [c2];simp)
  have eW:Hid (cl ls i no=2):=Hr.1
  have dS:Hid (bX ls i no=ls):=Hr.2
  clear Hr
  go_wp2_with (go_at_call 27;refine (bn _ _ _ _).mono ?_;rintro e w' ⟨rfl,hw'⟩;have hw2:=hw'.symm;subst hw2)
  go_ret2
  exact ⟨_,vs,by rw [eW.out];rfl,by rw [dS.out];exact M.out,K2⟩
 cases c3:decide (0 <= d8 ls no)
 rotate_left
 ·have Hr:=jz.out (by rw [c3];simp)
  have eW:Hid (cl ls i no=2):=Hr.1
  have dS:Hid (bX ls i no=ls):=Hr.2
  clear Hr
  go_wp2_with (first
   | (go_at_call 27;refine (bn _ _ _ _).mono ?_;rintro e w' ⟨rfl,hw'⟩;have hw2:=hw'.symm;subst hw2)
   | (go_at_call 84;refine (WA.out _ K2).mono ?_;rintro e w3 ⟨rfl,k3⟩))
  go_ret2
  exact ⟨_,vs,by rw [eW.out];rfl,by rw [dS.out];exact M.out.keeps k3 |>.widen (Nat.le_refl _) k3.size,K2.trans k3⟩
 have Ng:Hid (d8 ls no = -1):=Nd c3
 rw [Ng.out] at WA
 obtain ⟨h0,h1⟩:=dq.1 c1
 obtain ⟨j,rfl⟩:∃ j:Nat,i=(j:Int):=⟨i.toNat,by omega⟩
 have hj:j < n:=by omega
 have hj':(j:Int) < (n:Int):=by omega
 obtain ⟨l,hl1⟩:=bW (xs:=ls) (k:=j) (by rw [Hn.out];exact hj)
 obtain ⟨b,off,a',cap',rfl,r0,r1,-,-⟩:=HS.out.at hl1
 have Hl:Hid (ls[j]?=some l):=hl1
 have Ho:Hid (d7 ls (j:Int).toNat=l.owner):=by show _=_;rw [Int.toNat_natCast];exact gO hl1
 have go:Hid (cl ls (j:Int) no=if l.owner==no then 3 else if l.owner==0 then 0 else if hasB (fG ls l.owner) no then 4 else 1):=by
  show _=_
  unfold cl
  rw [hb,Hn.out,c1,c2,c3,Ho.out]
  rfl
 clear hl1 r1 jz h0 h1
 cases c4:(l.owner==no)
 rotate_left
 ·have eW:Hid (cl ls (j:Int) no=3):=by show _=_;rw [go.out,c4];rfl
  have dS:Hid (bX ls (j:Int) no=ls):=by show _=_;unfold bX;rw [hb,eW.out];rfl
  go_wp2_with (first
   | (go_at_call 27;refine (bn _ _ _ _).mono ?_;rintro e w' ⟨rfl,hw'⟩;have hw2:=hw'.symm;subst hw2)
   | (go_at_call 84;refine (WA.out _ K2).mono ?_;rintro e w3 ⟨rfl,k3⟩;have kk:aa w w3:=K2.trans k3))
  go_ret2
  exact ⟨_,vs,by rw [eW.out];rfl,by rw [dS.out];exact M.out.keeps k3 |>.widen (Nat.le_refl _) k3.size,kk⟩
 have jA:Hid (vs.length=n):=M.out.len.trans Hn.out
 obtain ⟨b3,iS,ev⟩:=M.out.own.blk (by rw [jA.out];omega)
 rw [jA.out] at ev
 subst ev
 obtain ⟨x,hx⟩:=bW (xs:=vs) (k:=j) (by rw [jA.out];exact hj)
 have Hx:Hid (vs[j]?=some x):=hx
 have O0:Own 37 2 gk w2 w.heap.size (.slice (some ⟨b3,0,none⟩) vs.length iS) vs:=by rw [jA.out];exact M.out.own
 have bl:Hid (b3 < w2.heap.size):=(O0.cD b3 rfl).2
 have l8:Hid (w.heap.size <= b3):=(O0.cD b3 rfl).1
 have s0:∀ w',aa w2 w'->w'.cell? ⟨b3,j*2,none⟩=some (.int .i64 x.o):=aa.has (O0.cellAt gJ (k:=0) hx (by omega))
 have s1:∀ w',aa w2 w'->w'.cell? ⟨b3,j*2+1,none⟩=some x.row:=aa.has (O0.cellAt gJ (k:=1) hx (by omega))
 have s2:∀ w',aa w2 w'->∀ o,w'.frozen? ⟨b3,o,none⟩=false:=fun w' h o=>(h.aM _ _ bl.out).trans (O0.frozenAt o)
 have X1:=(M.out.rows j x l hx Hl.out)
 have OX:Hid (∀ w',aa w2 w'->aS w' w.heap.size x.row l.waits):=fun w' h=>X1.2.keeps h
 have Xb:Hid (∀ q,x.row.ownBlock=some q->q < w2.heap.size /\ q≠b3):=fun q hq=>⟨(X1.2.cD q hq).2,fun e=>(M.out.gj j x q hx hq).2 (by rw [e];rfl)⟩
 have Xo:Hid (x.o=l.owner):=X1.1
 have hw1:Hid (l.waits.length <= 2097152):=by show _ <= _;have:=lM Hl.out;have:=HL.out;unfold bT at this;omega
 clear X1 O0 hx
 obtain ⟨xo,xa,xn,xc⟩:=x
 dsimp only at s0 s1
 cases c5:(l.owner==0)
 rotate_left
 ·have eW:Hid (cl ls (j:Int) no=0):=by show _=_;rw [go.out,c4,c5];rfl
  have dS:Hid (bX ls (j:Int) no=ls.set j { l with owner:=no }):=by show _=_;unfold bX;rw [hb,eW.out,Int.toNat_natCast,pW Hl.out (p7 no)];rfl
  go_wp2_with (first
   | (go_at_call 27;refine (bn _ _ _ _).mono ?_;rintro e w' ⟨rfl,hw'⟩;have hw2:=hw'.symm;subst hw2)
   | (go_at_call 84;refine (WA.out _ K2).mono ?_;rintro e w3 ⟨rfl,k3⟩;have kk:aa w w3:=K2.trans k3))
  go_ret2
  refine ⟨_,vs.set j ⟨no,xa,xn,xc⟩,by rw [eW.out];rfl,?_,kk.setCell (p:=⟨b3,j*2,none⟩) l8.out _⟩
  rw [dS.out]
  have m:Mine w3 w.heap.size w3.heap.size (.slice (some ⟨b3,0,none⟩) vs.length iS) vs ls:=by rw [jA.out];exact (M.out.keeps k3).widen (Nat.le_refl _) k3.size
  have:=m.fB Hx.out Hl.out no
  rw [List.length_set,jA.out] at this
  simpa using this
 cases c6:hasB (fG ls l.owner) no
 rotate_left
 ·have eW:Hid (cl ls (j:Int) no=4):=by show _=_;rw [go.out,c4,c5,c6];rfl
  have dS:Hid (bX ls (j:Int) no=ls):=by show _=_;unfold bX;rw [hb,eW.out];rfl
  go_wp2_with (first
   | (go_at_call 27;refine (bn _ _ _ _).mono ?_;rintro e w' ⟨rfl,hw'⟩;have hw2:=hw'.symm;subst hw2)
   | (go_at_call 84;refine (WA.out _ K2).mono ?_;rintro e w3 ⟨rfl,k3⟩;have kk:aa w w3:=K2.trans k3)
   | (go_at_call 181;refine (CO.out _ _ kk).mono ?_;rintro e w4 ⟨v4,rfl,O4,k4⟩;have oT:aa w w4:=kk.trans k4;have k24:aa w2 w4:=k3.trans k4;obtain ⟨a4,nK,e4,N4,l4,wL⟩:=aS.ns O4;subst e4)
   | (go_at_call 147;refine (pM a4 nK (fG ls l.owner) no _ (Nat.le_trans l4 wL) N4).mono ?_;rintro e w5 ⟨rfl,k5⟩;rw [c6];have t6:aa w w5:=oT.trans k5;have k25:aa w2 w5:=k24.trans k5))
  go_ret2
  exact ⟨_,vs,by rw [eW.out];rfl,by rw [dS.out];exact M.out.keeps k25 |>.widen (Nat.le_refl _) k25.size,t6⟩
 ·have eW:Hid (cl ls (j:Int) no=1):=by show _=_;rw [go.out,c4,c5,c6];rfl
  have dS:Hid (bX ls (j:Int) no=ls.set j { l with waits:=l.waits++[no] }):=by show _=_;unfold bX;rw [hb,eW.out,Int.toNat_natCast,pW Hl.out (tQ no)];rfl
  go_wp2_with (first
   | (go_at_call 27;refine (bn _ _ _ _).mono ?_;rintro e w' ⟨rfl,hw'⟩;have hw2:=hw'.symm;subst hw2)
   | (go_at_call 84;refine (WA.out _ K2).mono ?_;rintro e w3 ⟨rfl,k3⟩;have kk:aa w w3:=K2.trans k3)
   | (go_at_call 181;refine (CO.out _ _ kk).mono ?_;rintro e w4 ⟨v4,rfl,O4,k4⟩;have oT:aa w w4:=kk.trans k4;have k24:aa w2 w4:=k3.trans k4;obtain ⟨a4,nK,e4,N4,l4,wL⟩:=aS.ns O4;subst e4)
   | (go_at_call 147;refine (pM a4 nK (fG ls l.owner) no _ (Nat.le_trans l4 wL) N4).mono ?_;rintro e w5 ⟨rfl,k5⟩;rw [c6];have t6:aa w w5:=oT.trans k5;have k25:aa w2 w5:=k24.trans k5)
   | (at_builtin;(refine nc rfl _ _ 27 rfl w.heap.size 3 (.int .i64 0) 1 8 ic Tryz.underlying27 (by kernel_rfl) rfl (by decide) fW lN _ l.waits rfl (OX.out _ (k25.alloc _)) (by have:=t6.size;simp;omega) no _ 1 (ai.new _ _ _) rfl ?c1 ?c2 ?_)))
  case c1=>have:=hw1.out;unfold maxLen;omega
  case c2=>have:=hw1.out;omega
  intro v6 w6 o6 g6 f6
  obtain ⟨a6,c7,e6,-,-,-⟩:=aS.ns o6
  obtain ⟨m6,jV⟩:∃ m,Hid ((l.waits++[no]).length=m):=⟨_,rfl⟩
  rw [jV.out] at e6
  subst e6
  have O6:Hid (aS w6 w.heap.size (.slice a6 m6 c7) (l.waits++[no])):=o6
  have CD:Hid (b3 < w5.heap.size):=Nat.lt_of_lt_of_le bl.out k25.size
  have key:Hid (∀ q,q < w5.heap.size->(Value.slice xa xn xc).ownBlock≠some q->w6.heap[q]?=w5.heap[q]?):=fun q hq hne=>(g6.block q (by simp;omega) (fun e=>hne e.symm)).trans (Below.block ((aa.refl w5).alloc _) q hq)
  have nG:w6.heap[b3]?=w5.heap[b3]?:=key.out b3 CD.out (fun e=>(Xb.out b3 e).2 rfl)
  have s3:w6.cell? ⟨b3,j*2+1,none⟩=some (.slice xa xn xc):=(World.cell?_of_block (w:=w5) nG).trans (s1 _ k25)
  have s4:∀ o,w6.frozen? ⟨b3,o,none⟩=false:=fun o=>(World.frozen?_of_block (w:=w5) nG).trans (s2 _ k25 o)
  have CE:Hid (w5.heap.size+1 <= w6.heap.size):=by have:=g6.size;simp at this;exact this
  have lC:Hid (∀ q,(Value.slice a6 m6 c7).ownBlock=some q->(Value.slice xa xn xc).ownBlock=some q∨q=w5.heap.size+1):=fun q hq=>by have:=f6 q hq;simpa using this
  have Nh:Hid (aa w w6):=aa.grown (t6.alloc _) g6 (fun q hq=>((OX.out _ k25).cD q hq).1)
  clear o6 g6 f6 s0 s1 s2
  go_wp2
  go_ret2
  refine ⟨_,vs.set j ⟨xo,a6,m6,c7⟩,by rw [eW.out];rfl,?_,Nh.out.setCell (p:=⟨b3,j*2+1,none⟩) l8.out _⟩
  rw [dS.out]
  have m5:Mine w5 w.heap.size w5.heap.size (.slice (some ⟨b3,0,none⟩) n iS) vs ls:=(M.out.keeps k25).widen (Nat.le_refl _) k25.size
  have wD:Own 37 2 gk w6 w.heap.size (.slice (some ⟨b3,0,none⟩) n iS) vs:=m5.own.same fun q hq=>by
   have:q=b3:=by simp [Value.ownBlock] at hq;exact hq.symm
   rw [this];exact nG
  refine m5.swap (x:=⟨xo,xa,xn,xc⟩) (y:=⟨xo,a6,m6,c7⟩) Hx.out (wD.setAt gJ (i:=j) (j:=1) (x:=⟨xo,xa,xn,xc⟩) (y:=⟨xo,a6,m6,c7⟩) (u := .slice a6 m6 c7) Hx.out (by omega) rfl) (fun q h1 h2 h3 => ?_) Xo.out ?_ (by have:=CE.out;simp;omega) (fun q hq => ?_)
  ·have:q≠b3:=fun e=>h1 (by rw [e];rfl)
   rw [gz this]
   exact key.out q h3 h2
  ·refine Own.same O6.out fun q hq=>gz ?_
   rcases lC.out q hq with h | h
   ·exact (Xb.out q h).2
   ·have:=CD.out;omega
  ·rcases lC.out q hq with h | h
   ·exact .inr h
   ·have:=CE.out
    have:=O6.out.cD q hq
    exact .inl ⟨by omega,by simp;omega⟩
end
theorem Ex {P:Program} {f:FuncId} {args:Array Value} {W:World} {Post:Value->World->Prop} (hi:P.inits.idxOf? f=none) (h:Calls P f args W fun e W'=>∃ v,e = .returned v /\ Post v W') :
  ∃ M last o w' t',runNT P (M+1) (Go.Conc.solo (Go.Conc.G (Frame.enter P f args .normal) []) W) #[]=(.ended o w',t') /\ runN P M (Go.Conc.solo (Go.Conc.G (Frame.enter P f args .normal) []) W) = .next last /\
   step P last = .ended o w' /\ Go.Conc.Good P Post last o w' t':=by
 obtain ⟨e,w',fr,⟨v,rfl,hp⟩,hc,hfn,hl⟩:=h []
 obtain ⟨n,hn⟩:∃ n,runN P n (lone (Frame.enter P f args .normal) [] W) = .next (lone fr [] w'):=hc
 have hst:step P (lone fr [] w') = .ended (.done v) w':=step_leave_done hl (by rw [hfn];exact hi)
 have hend:runN P (n+1) (lone (Frame.enter P f args .normal) [] W) = .ended (.done v) w':=by
  rw [runN_add,hn]
  simp only [runN,hst]
 have hall:(runNT P (n+1) (lone (Frame.enter P f args .normal) [] W) #[]).2.allBy 0:=allBy_of_lone P n _ _ hn (by simp [lone]) (by simp [lone])
 refine ⟨n,lone fr [] w',.done v,w',(runNT P (n+1) (lone (Frame.enter P f args .normal) [] W) #[]).2,?_,hn,hst,v,rfl,hp,fun said=>not_race_of_allBy hall,handedOver_of_allBy hall,onlyLeaving_of_quiet (quiet_lone _ _ _),?_⟩
 ·have:=runNT_fst P (n+1) (lone (Frame.enter P f args .normal) [] W) #[]
  rw [hend] at this
  exact Prod.ext this rfl
 ·intro i g hg h0
  simp only [lone] at hg
  rcases i with _ | i
  ·exact absurd rfl h0
  ·simp at hg
variable {p p':Bool}
attribute [local go_sem] aa.refl aa.alloc aa.drew aa.drewN
theorem Ni {ts:List ag} (h:iy ts=true):∀ (j i:Nat) (a b:ag),i < j->ts[i]?=some a->ts[j]?=some b->a.no < b.no:=by
 have H:=(vP ts).1 h
 intro j
 induction j with
 | zero=>intro i a b hi;omega
 | succ j ih =>
  intro i a b hi ha hb
  rcases Nat.lt_or_ge i j with h1 | h1
  ·have hj:j < ts.length:=by
    rcases Nat.lt_or_ge (j+1) ts.length with h | h
    ·omega
    ·simp [List.getElem?_eq_none h] at hb
   have h2:=ih i a ts[j] h1 ha (List.getElem?_eq_getElem hj)
   have h3:=H j ts[j] b (List.getElem?_eq_getElem hj) hb
   omega
  ·obtain rfl:i=j:=by omega
   exact H i a b ha hb
theorem Nj {ts:List ag} (h:di ts=true):iy ts=true:=by
 simp only [di,Bool.and_eq_true] at h;exact h.1.2
theorem Bk {ts:List ag} (h:di ts=true) {i:Nat} {x:ag} (hx:ts[i]?=some x):dA ts x.no=i:=by
 have A:=Ni (Nj h)
 have hi:i < ts.length:=by
  rcases Nat.lt_or_ge i ts.length with h | h
  ·exact h
  ·simp [List.getElem?_eq_none h] at hx
 have:ts.findIdx? (fun t=>t.no==x.no)=some i:=by
  rw [List.findIdx?_eq_some_iff_getElem]
  have e1:ts[i]=x:=by rw [List.getElem?_eq_getElem hi] at hx;simpa using hx
  refine ⟨hi,by rw [e1];simp,fun j hj => ?_⟩
  have:=A i j ts[j] x hj (List.getElem?_eq_getElem _) hx
  simp;omega
 simp [dA,this]
theorem p4 {ts:List ag} (h:di ts=true) {i:Nat} {t:ag} (ht:ts[i]?=some t):aY t=true:=by
 simp only [di,Bool.and_eq_true] at h
 exact List.all_eq_true.1 h.1.1 t (List.mem_of_getElem? ht)
theorem Nk {t:ag} (h:aY t=true):1 <= t.no /\ t.no <= 1000:=by
 unfold aY at h
 simp only [Bool.and_eq_true] at h
 exact dq.1 h.1.1.1.1.1
theorem Ay {ts:List ag} (h:di ts=true):dA ts 0 = -1:=by
 unfold dA
 split
 ·rename_i i hi
  obtain ⟨hi',h1,-⟩:=List.findIdx?_eq_some_iff_getElem.1 hi
  have:=Nk (p4 h (List.getElem?_eq_getElem hi'))
  have e:ts[i].no=0:=by simpa using h1
  omega
 ·rfl
section
attribute [local go_sem] aa.refl aa.alloc aa.drew aa.drewN
structure Room (w:World) (b m:Nat):Prop where
 lt:b < w.heap.size
 cells:∀ o,o < m->∃ v,w.cell? ⟨b,o,none⟩=some v
 aM:∀ o,w.frozen? ⟨b,o,none⟩=false
theorem Room.setCell {w:World} {b m:Nat} (h:Room w b m) (p:Addr) (v:Value):Room (w.setCell p v) b m :=
 ⟨by simpa using h.lt,fun q hq=>by obtain ⟨u,hu⟩:=h.cells q hq;exact cell?_setCell_some hu,fun q=>by simpa using h.aM q⟩
theorem Room.put {w:World} {b m o:Nat} (h:Room w b m) (t:ag):Room (putAt w b o t) b m :=
 (((((((((((((h.setCell _ _).setCell _ _).setCell _ _).setCell _ _).setCell _ _).setCell _ _).setCell _ _).setCell _ _).setCell _ _).setCell _ _).setCell _ _).setCell _ _).setCell _ _).setCell _ _
theorem ab.put {g o:Nat} {a b:World} (h:ab g a b) (t:ag):ab g a (putAt b g o t) :=
 (((((((((((((h.setCell _ _).setCell _ _).setCell _ _).setCell _ _).setCell _ _).setCell _ _).setCell _ _).setCell _ _).setCell _ _).setCell _ _).setCell _ _).setCell _ _).setCell _ _).setCell _ _
end
def ed:List Lk->List Int
 | []=>[]
 | l::r=>l.waits++ed r
theorem EV (xs ys:List Lk):ed (xs++ys)=ed xs++ed ys:=by
 induction xs with
 | nil=>rfl
 | cons l r ih=>simp [ed,ih]
theorem nO {ls:List Lk} {x:Int}:x∈ed ls↔∃ (j:Nat) (l:Lk),ls[j]?=some l /\ hasB l.waits x=true:=by
 induction ls with
 | nil=>simp [ed]
 | cons l r ih =>
  simp only [ed,List.mem_append,ih]
  constructor
  ·rintro (h | ⟨j,m,h1,h2⟩)
   ·exact ⟨0,l,rfl,il.2 h⟩
   ·exact ⟨j+1,m,h1,h2⟩
  ·rintro ⟨j,m,h1,h2⟩
   cases j with
   | zero=>simp at h1;subst h1;exact .inl (il.1 h2)
   | succ j=>exact .inr ⟨j,m,by simpa using h1,h2⟩
theorem uq {ls:List Lk} {x:Int}:dj ls x=none↔x ∉ ed ls:=by
 rw [nO]
 constructor
 ·rintro h ⟨j,l,h1,h2⟩
  rw [rX h j l h1] at h2;cases h2
 ·intro h
  refine tR fun j m hm => ?_
  cases hb:hasB m.waits x
  ·rfl
  ·exact absurd ⟨j,m,hm,hb⟩ h
theorem uu (ls:List Lk) (x:Int):ez ls x=eV (ed ls) x:=by
 induction ls with
 | nil=>rfl
 | cons l r ih=>simp only [ez,ed,wH,ih]
theorem ur:∀ {xs:List Int},xs.Nodup↔∀ x∈xs,eV xs x=1
 | []=>by simp
 | y::r=>by
  rw [List.nodup_cons,ur (xs:=r)]
  have e:∀ x,eV (y::r) x=(if y==x then 1 else 0)+eV r x:=by
   intro x
   have:=wH [y] r x
   simp only [List.singleton_append] at this
   rw [this]
   congr 1
   cases c:(y==x) <;> simp [eV,c]
  constructor
  ·rintro ⟨h1,h2⟩ x hx
   rw [e]
   rcases List.mem_cons.1 hx with rfl | hx
   ·have:=wh.2 (we.2 h1);simp;omega
   ·have hne:y≠x:=fun e'=>h1 (e' ▸ hx)
    have:=h2 x hx
    rw [if_neg (by simpa using hne)];omega
  ·intro h
   have hy:y ∉ r:=fun hm=>by
    have h1:=h y (List.mem_cons_self ..)
    rw [e] at h1
    have:=wg.2 (il.2 hm)
    simp at h1;omega
   refine ⟨hy,fun x hx => ?_⟩
   have h1:=h x (List.mem_cons_of_mem _ hx)
   have hne:y≠x:=fun e'=>hy (e' ▸ hx)
   rw [e,if_neg (by simpa using hne)] at h1
   omega
theorem Nl (ls:List Lk):bC ls=(ed ls).length:=by
 induction ls with
 | nil=>rfl
 | cons l r ih=>simp [bC,ed,ih]
theorem Nm {xs:List Int} {n:Nat} (h:xs.Nodup) (hb:∀ x∈xs,1 <= x /\ x <= (n:Int)):xs.length <= n:=by
 refine tS n xs.length (fun i=>((xs.getD i 0) - 1).toNat) (fun i hi => ?_) (fun i j hi hj e => ?_)
 ·have:=hb _ (List.getElem_mem hi)
  rw [List.getD_eq_getElem?_getD,List.getElem?_eq_getElem hi,Option.getD_some]
  omega
 ·have h1:=hb _ (List.getElem_mem hi)
  have h2:=hb _ (List.getElem_mem hj)
  simp only [List.getD_eq_getElem?_getD,List.getElem?_eq_getElem hi,List.getElem?_eq_getElem hj,Option.getD_some] at e
  exact (List.getElem_inj h).1 (by omega)
theorem Right.few {ls:List Lk} (R:Right ls):bC ls <= 1000:=by
 rw [Nl]
 refine Nm (n:=1000) (ur.2 fun x hx => ?_) fun x hx => ?_
 ·obtain ⟨j,l,hl,h⟩:=nO.1 hx
  rw [<- uu];exact R.once j l x hl h
 ·obtain ⟨j,l,hl,h⟩:=nO.1 hx
  exact R.no j l x hl h
section
attribute [local go_sem] aa.refl aa.alloc aa.drew aa.drewN
set_option maxHeartbeats 8000000 in
theorem FU (a:Option Addr) (cap:Nat) (ls:List Lk) (i no next:Int) (w:World) (hl:bT ls <= 2097152) (hs:dU true w a ls) :
  Calls Tryz.prog 151 #[.slice a ls.length cap,.int .i64 i,.int .i64 no,.int .i64 next] w fun e w'=>∃ v vs,e = .returned (.tuple #[v,.bool (eD ls i no next)]) /\ Mine w' w.heap.size w'.heap.size v vs (dV ls i no next) /\ aa w w':=by
 have HL:Hid (bT ls <= 2097152):=hl
 have hl0:ls.length <= 2097152:=by unfold bT at hl;omega
 clear hl
 have HS:Hid (dU true w a ls):=hs
 clear hs
 have LO:Hid (∀ w',aa w w'->Calls Tryz.prog 70 #[.slice a ls.length cap] w' fun e w''=>e = .returned (.bool (dm ls)) /\ aa w' w''):=fun w' h=>tY a cap ls w' HL.out (HS.out.keeps h)
 have CP:Hid (∀ w',aa w w'->Calls Tryz.prog 90 #[.slice a ls.length cap] w' fun e w''=>∃ v vs,e = .returned v /\ Mine w'' w'.heap.size w''.heap.size v vs ls /\ aa w' w''):=fun w' h=>wv a cap ls w' HL.out (HS.out.keeps h)
 generalize hn:ls.length=n at hl0
 have Hn:Hid (ls.length=n):=hn
 rw [hn] at LO CP
 clear hn
 cases hb:dm ls
 ·have Hr:Hid (eD ls i no next=false):=by show _=_;unfold eD;rw [hb];rfl
  have Hq:Hid (dV ls i no next=[]):=by show _=_;unfold dV;rw [hb];rfl
  rw [hb] at LO
  go_enter Tryz.func151,Tryz.ntmps151
  go_wp2_with (go_at_call 70;refine (LO.out _ (aa.refl _)).mono ?_;rintro e w1 ⟨rfl,k1⟩)
  go_ret2
  refine ⟨_,[],by rw [Hr.out];rfl,?_,k1.alloc _⟩
  rw [Hq.out]
  exact Mine.none _ _ _ _ (Own.new 37 2 gk w1 k1.size) (fun q hq=>by simp [Value.ownBlock] at hq;simp;omega)
 rw [hb] at LO
 go_enter Tryz.func151,Tryz.ntmps151
 go_wp2_with (first
  | (go_at_call 70;refine (LO.out _ (aa.refl _)).mono ?_;rintro e w1 ⟨rfl,k1⟩)
  | fail)
 refine (CP.out _ k1).mono ?_
 rintro e w2 ⟨v,vs,rfl,M0,k2⟩
 have M:Hid (Mine w2 w.heap.size w2.heap.size v vs ls):=M0.widen k1.size (Nat.le_refl _)
 have K2:aa w w2:=k1.trans k2
 clear M0 k1 k2 LO CP
 have nx:IntKind.i64.wrap ((n:Int) - 1)=(n:Int) - 1:=Go.IntWalk.i64_in _ (by omega)
 have jz:Hid (∀ (_:(aF i 0 ((n:Int) - 1)&&(!(no==0)&&(d7 ls i.toNat==no&&lZ (jm ls i.toNat) next)))=false),eD ls i no next=false /\ dV ls i no next=ls):=by
  intro h
  have e1:eD ls i no next=false:=by unfold eD;rw [hb,Hn.out,h];rfl
  refine ⟨e1,?_⟩
  unfold dV
  rw [hb,e1];rfl
 cases c1:aF i 0 ((n:Int) - 1)
 ·have Hr:=jz.out (by rw [c1];rfl)
  have eW:Hid (eD ls i no next=false):=Hr.1
  have dS:Hid (dV ls i no next=ls):=Hr.2
  clear Hr
  go_wp2_with (go_at_call 27;refine (bn _ _ _ _).mono ?_;rintro e w' ⟨rfl,hw'⟩;have hw2:=hw'.symm;subst hw2)
  go_ret2
  exact ⟨_,vs,by rw [eW.out];rfl,by rw [dS.out];exact M.out,K2⟩
 cases c2:(no==0)
 rotate_left
 ·have Hr:=jz.out (by rw [c2];simp)
  have eW:Hid (eD ls i no next=false):=Hr.1
  have dS:Hid (dV ls i no next=ls):=Hr.2
  clear Hr
  go_wp2_with (go_at_call 27;refine (bn _ _ _ _).mono ?_;rintro e w' ⟨rfl,hw'⟩;have hw2:=hw'.symm;subst hw2)
  go_ret2
  exact ⟨_,vs,by rw [eW.out];rfl,by rw [dS.out];exact M.out,K2⟩
 obtain ⟨h0,h1⟩:=dq.1 c1
 obtain ⟨j,rfl⟩:∃ j:Nat,i=(j:Int):=⟨i.toNat,by omega⟩
 have hj:j < n:=by omega
 have hj':(j:Int) < (n:Int):=by omega
 obtain ⟨l,hl1⟩:=bW (xs:=ls) (k:=j) (by rw [Hn.out];exact hj)
 obtain ⟨b,off,a',cap',rfl,r0,r1,hle,hns⟩:=HS.out.at hl1
 have Hl:Hid (ls[j]?=some l):=hl1
 have N1:Hid (Ns w a' l.waits):=hns
 have lx:Hid (l.waits.length <= maxLen):=hle
 have Ho:Hid (d7 ls (j:Int).toNat=l.owner):=by show _=_;rw [Int.toNat_natCast];exact gO hl1
 have Hw:Hid (jm ls (j:Int).toNat=l.waits):=by show _=_;rw [Int.toNat_natCast];simp [jm,hl1]
 have hw1:Hid (l.waits.length <= 2097152):=by show _ <= _;have:=lM Hl.out;have:=HL.out;unfold bT at this;omega
 clear hl1 hns hle h0 h1
 have oJ:(l.owner==no) = !(l.owner != no):=by simp [bne]
 cases c4:(l.owner != no)
 rotate_left
 ·have Hr:=jz.out (by rw [Ho.out,oJ,c4];simp)
  have eW:Hid (eD ls (j:Int) no next=false):=Hr.1
  have dS:Hid (dV ls (j:Int) no next=ls):=Hr.2
  clear Hr
  go_wp2_with (go_at_call 27;refine (bn _ _ _ _).mono ?_;rintro e w' ⟨rfl,hw'⟩;have hw2:=hw'.symm;subst hw2)
  go_ret2
  exact ⟨_,vs,by rw [eW.out];rfl,by rw [dS.out];exact M.out,K2⟩
 have GO:Hid (eD ls (j:Int) no next=lZ l.waits next):=by
  show _=_
  unfold eD
  rw [hb,Hn.out,c1,c2,Ho.out,oJ,c4,Hw.out]
  rfl
 obtain ⟨m,Hm⟩:∃ m:Nat,Hid (l.waits.length=m):=⟨_,rfl⟩
 have hm1:m <= 2097152:=by rw [<- Hm.out];exact hw1.out
 rw [Hm.out] at r1
 have HA:Hid (∀ w',aa w w'->Calls Tryz.prog 147 #[.slice a' m cap',.int .i64 next] w' fun e w''=>e = .returned (.bool (hasB l.waits next)) /\ aa w' w''):=by
  intro w' h
  have:=pM a' cap' l.waits next w' lx.out (N1.out.keeps h)
  rwa [Hm.out] at this
 have LE:Hid (∀ w',aa w w'->Calls Tryz.prog 182 #[.slice a' m cap',.int .i64 next] w' fun e w''=>∃ v,e = .returned v /\ aS w'' w'.heap.size v (eK l.waits next) /\ aa w' w''):=by
  intro w' h
  have:=Nc a' cap' l.waits next w' hw1.out (N1.out.keeps h)
  rwa [Hm.out] at this
 have MN:Hid (lZ l.waits next=if (m:Int)==0 then next==0 else hasB l.waits next):=by
  show _=_
  unfold lZ
  rw [Hm.out]
  by_cases h:m=0
  ·subst h;rfl
  ·rw [if_neg (by simpa using h),if_neg (by simp;omega)]
 have jA:Hid (vs.length=n):=M.out.len.trans Hn.out
 obtain ⟨b3,iS,ev⟩:=M.out.own.blk (by rw [jA.out];omega)
 rw [jA.out] at ev
 subst ev
 obtain ⟨x,hx⟩:=bW (xs:=vs) (k:=j) (by rw [jA.out];exact hj)
 have Hx:Hid (vs[j]?=some x):=hx
 have O0:Own 37 2 gk w2 w.heap.size (.slice (some ⟨b3,0,none⟩) vs.length iS) vs:=by rw [jA.out];exact M.out.own
 have bl:Hid (b3 < w2.heap.size):=(O0.cD b3 rfl).2
 have l8:Hid (w.heap.size <= b3):=(O0.cD b3 rfl).1
 have s0:∀ w',aa w2 w'->w'.cell? ⟨b3,j*2,none⟩=some (.int .i64 x.o):=aa.has (O0.cellAt gJ (k:=0) hx (by omega))
 have s1:∀ w',aa w2 w'->w'.cell? ⟨b3,j*2+1,none⟩=some x.row:=aa.has (O0.cellAt gJ (k:=1) hx (by omega))
 have s2:∀ w',aa w2 w'->∀ o,w'.frozen? ⟨b3,o,none⟩=false:=fun w' h o=>(h.aM _ _ bl.out).trans (O0.frozenAt o)
 clear O0 hx oJ
 obtain ⟨xo,xa,xn,xc⟩:=x
 dsimp only at s0 s1
 cases c3:((m:Int)==0)
 ·have m0:decide (0 < m)=true:=by simp at c3;simp;omega
  have m0':(0:Int) < (m:Int):=by simp at c3;omega
  cases c6:hasB l.waits next
  ·have Hr:=jz.out (by rw [Hw.out,MN.out,c3,c6];simp)
   have eW:Hid (eD ls (j:Int) no next=false):=Hr.1
   have dS:Hid (dV ls (j:Int) no next=ls):=Hr.2
   clear Hr
   go_wp2_with (first | (go_at_call 27;refine (bn _ _ _ _).mono ?_;rintro e w' ⟨rfl,hw'⟩;have hw2:=hw'.symm;subst hw2) | (go_at_call 147;refine (HA.out _ K2).mono ?_;rintro e w3 ⟨rfl,k3⟩;rw [c6];have kk:aa w w3:=K2.trans k3))
   go_ret2
   exact ⟨_,vs,by rw [eW.out];rfl,by rw [dS.out];exact M.out.keeps k3 |>.widen (Nat.le_refl _) k3.size,kk⟩
  ·have eW:Hid (eD ls (j:Int) no next=true):=by show _=_;rw [GO.out,MN.out,c3,c6];rfl
   have dS:Hid (dV ls (j:Int) no next=ls.set j ⟨next,eK l.waits next⟩):=by show _=_;unfold dV;rw [hb,eW.out,Int.toNat_natCast,pW Hl.out (pQ next)];rfl
   go_wp2_with (first
    | (go_at_call 27;refine (bn _ _ _ _).mono ?_;rintro e w' ⟨rfl,hw'⟩;have hw2:=hw'.symm;subst hw2)
    | (go_at_call 147;refine (HA.out _ K2).mono ?_;rintro e w3 ⟨rfl,k3⟩;rw [c6];have kk:aa w w3:=K2.trans k3)
    | (go_at_call 182;refine (LE.out _ kk).mono ?_;rintro e w4 ⟨v4,rfl,O4,k4⟩;have oT:aa w w4:=kk.trans k4;have k24:aa w2 w4:=k3.trans k4;obtain ⟨a4,c8,e4,-,-,-⟩:=aS.ns O4;obtain ⟨m4,wM⟩:∃ m,Hid ((eK l.waits next).length=m):=⟨_,rfl⟩;rw [wM.out] at e4;subst e4;have OH:Hid (aS w4 w3.heap.size (.slice a4 m4 c8) (eK l.waits next)):=O4;clear O4))
   go_ret2
   refine ⟨_,vs.set j ⟨next,a4,m4,c8⟩,by rw [eW.out];rfl,?_,(oT.setCell (p:=⟨b3,j*2,none⟩) l8.out _).setCell (p:=⟨b3,j*2+1,none⟩) l8.out _⟩
   rw [dS.out]
   have nz:Mine w4 w.heap.size w3.heap.size (.slice (some ⟨b3,0,none⟩) n iS) vs ls:=(M.out.keeps k24).widen (Nat.le_refl _) k3.size
   have hb4:∀ q,(Value.slice a4 m4 c8).ownBlock=some q->w3.heap.size <= q /\ q < w4.heap.size:=fun q hq=>OH.out.cD q hq
   have jR:∀ q,(Value.slice a4 m4 c8).ownBlock=some q->q≠b3:=fun q hq=>by have:=(hb4 q hq).1;have:=bl.out;have:=k3.size;omega
   refine nz.swap (x:=⟨xo,xa,xn,xc⟩) (y:=⟨next,a4,m4,c8⟩) Hx.out (nz.own.ix Hx.out ⟨next,a4,m4,c8⟩) (fun q h1 h2 h3 => ?_) rfl ?_ (by have:=k24.size;have:=k3.size;have:=k4.size;simp;omega) (fun q hq => .inl ⟨(hb4 q hq).1,by have:=(hb4 q hq).2;simp;omega⟩)
   ·have:q≠b3:=fun e=>h1 (by rw [e];rfl)
    rw [gz this,gz this]
   ·refine Own.same (Own.base OH.out kk.size) fun q hq => ?_
    rw [gz (jR q hq),gz (jR q hq)]
 ·have m0:decide (0 < m)=false:=by simp at c3;simp;omega
  have CG:(next==0) = !(next != 0):=by simp [bne]
  cases c6:(next != 0)
  rotate_left
  ·have Hr:=jz.out (by rw [Hw.out,MN.out,c3,CG,c6];simp)
   have eW:Hid (eD ls (j:Int) no next=false):=Hr.1
   have dS:Hid (dV ls (j:Int) no next=ls):=Hr.2
   clear Hr
   go_wp2_with (go_at_call 27;refine (bn _ _ _ _).mono ?_;rintro e w' ⟨rfl,hw'⟩;have hw2:=hw'.symm;subst hw2)
   go_ret2
   exact ⟨_,vs,by rw [eW.out];rfl,by rw [dS.out];exact M.out,K2⟩
  ·have eW:Hid (eD ls (j:Int) no next=true):=by show _=_;rw [GO.out,MN.out,c3,CG,c6];rfl
   have dS:Hid (dV ls (j:Int) no next=ls.set j ⟨next,eK l.waits next⟩):=by show _=_;unfold dV;rw [hb,eW.out,Int.toNat_natCast,pW Hl.out (pQ next)];rfl
   go_wp2_with (first
    | (go_at_call 27;refine (bn _ _ _ _).mono ?_;rintro e w' ⟨rfl,hw'⟩;have hw2:=hw'.symm;subst hw2)
    | (go_at_call 182;refine (LE.out _ K2).mono ?_;rintro e w4 ⟨v4,rfl,O4,k4⟩;have oT:aa w w4:=K2.trans k4;have k24:aa w2 w4:=k4;obtain ⟨a4,c8,e4,-,-,-⟩:=aS.ns O4;obtain ⟨m4,wM⟩:∃ m,Hid ((eK l.waits next).length=m):=⟨_,rfl⟩;rw [wM.out] at e4;subst e4;have OH:Hid (aS w4 w2.heap.size (.slice a4 m4 c8) (eK l.waits next)):=O4;clear O4))
   go_ret2
   refine ⟨_,vs.set j ⟨next,a4,m4,c8⟩,by rw [eW.out];rfl,?_,(oT.setCell (p:=⟨b3,j*2,none⟩) l8.out _).setCell (p:=⟨b3,j*2+1,none⟩) l8.out _⟩
   rw [dS.out]
   have nz:Mine w4 w.heap.size w2.heap.size (.slice (some ⟨b3,0,none⟩) n iS) vs ls:=(M.out.keeps k24).widen (Nat.le_refl _) (Nat.le_refl _)
   have hb4:∀ q,(Value.slice a4 m4 c8).ownBlock=some q->w2.heap.size <= q /\ q < w4.heap.size:=fun q hq=>OH.out.cD q hq
   have jR:∀ q,(Value.slice a4 m4 c8).ownBlock=some q->q≠b3:=fun q hq=>by have:=(hb4 q hq).1;have:=bl.out;omega
   refine nz.swap (x:=⟨xo,xa,xn,xc⟩) (y:=⟨next,a4,m4,c8⟩) Hx.out (nz.own.ix Hx.out ⟨next,a4,m4,c8⟩) (fun q h1 h2 h3 => ?_) rfl ?_ (by have:=k24.size;simp;omega) (fun q hq => .inl ⟨(hb4 q hq).1,by have:=(hb4 q hq).2;simp;omega⟩)
   ·have:q≠b3:=fun e=>h1 (by rw [e];rfl)
    rw [gz this,gz this]
   ·refine Own.same (Own.base OH.out K2.size) fun q hq => ?_
    rw [gz (jR q hq),gz (jR q hq)]
end
variable {p:Bool}
attribute [local go_sem] aa.refl aa.alloc aa.drew aa.drewN
def rr:Prop:=∀ (a:Option Addr) (cap:Nat) (ls:List Lk) (i no next:Int) (w:World),bT ls <= 2097152->Plain w a ls.length cap->dU true w a ls->Calls Tryz.prog 172 #[.slice a ls.length cap,.int .i64 i,.int .i64 no,.int .i64 next] w fun e w'=>∃ v vs,e = .returned (.tuple #[v,.bool (eD ls i no next)]) /\ Mine w' w.heap.size w'.heap.size v vs (dV ls i no next) /\ aa w w'
section
attribute [local go_sem] aa.refl aa.alloc aa.drew aa.drewN
set_option maxHeartbeats 2000000 in
theorem CI (t:ag) (now:Int) (w:World) :
  Calls Tryz.prog 176 #[tk t,.int .i64 now] w fun e w'=>e = .returned (tk (j5 t now)) /\ aa w w':=by
 go_enter Tryz.func176,Tryz.ntmps176
 go_wp2_with fail
 refine (rh t _).mono ?_
 rintro e w1 ⟨rfl,k1⟩
 have B1:=((ai.new w (tc t) 43).alloc (.cells (tc ag.zero) 43)).keeps k1
 have B2:=(ai.new (w.alloc (.cells (tc t) 43)) (tc ag.zero) 43).keeps k1
 have K1:Hid (aa w w1):=(((aa.refl w).alloc _).alloc _).trans k1
 simp only [World.size_alloc] at B2
 have R:Hid (ai w1 (w.heap.size+1) (tc ag.zero)):=B2
 obtain ⟨_,b1,b2⟩:=B1
 obtain ⟨_,c1,c2⟩:=B2
 clear k1
 cases hd:dh t
 ·have Hn:Hid (j5 t now=t):=by show _=_;simp [j5,se,hd]
  go_wp2
  have D:=R.out.putC (tc (t)).toList rfl
  have K:=aa.putC (b:=w.heap.size+1) (by omega) (tc (t)).toList 0 K1.out
  change bodyPost _ _ _ _ _ (putC w1 (w.heap.size+1) 0 (tc (t)).toList)
  generalize putC w1 (w.heap.size+1) 0 (tc (t)).toList=X at D K ⊢
  exact bodyPost_ret (v:=tk (t)) (by simp [results,Tryz.results176,go_sem,D.cells]) rfl ⟨by rw [Hn.out],K⟩
 ·cases hi:aF now 0 100000
  ·have Hn:Hid (j5 t now=t):=by show _=_;simp [j5,se,hi]
   go_wp2_with (go_at_call 27;refine (bn _ _ _ _).mono ?_;rintro e w' ⟨rfl,hw'⟩;have hw2:=hw'.symm;subst hw2)
   have D:=R.out.putC (tc (t)).toList rfl
   have K:=aa.putC (b:=w.heap.size+1) (by omega) (tc (t)).toList 0 K1.out
   change bodyPost _ _ _ _ _ (putC w1 (w.heap.size+1) 0 (tc (t)).toList)
   generalize putC w1 (w.heap.size+1) 0 (tc (t)).toList=X at D K ⊢
   exact bodyPost_ret (v:=tk (t)) (by simp [results,Tryz.results176,go_sem,D.cells]) rfl ⟨by rw [Hn.out],K⟩
  ·have H:=(vx t).1 hd
   obtain ⟨p0,p1⟩:=H.p
   obtain ⟨d0,d1⟩:=H.due
   clear H
   cases hl:decide (now < t.due)
   ·have hl':=of_decide_eq_false hl
    have Hn:Hid (j5 t now={ t with left:=t.q,due:=t.due+t.p }):=by show _=_;simp only [j5,se,hd,hi,decide_eq_true (show t.due <= now by omega),Bool.and_true,if_true]
    go_wp2_with (go_at_call 27;refine (bn _ _ _ _).mono ?_;rintro e w' ⟨rfl,hw'⟩;have hw2:=hw'.symm;subst hw2)
    have D:=((R.out.far (c:=w.heap.size) (o:=7) (by omega) (.int .i64 (t.q))).far (c:=w.heap.size) (o:=8) (by omega) (.int .i64 (t.due+t.p))).putC (tc ({ t with left:=t.q,due:=t.due+t.p })).toList rfl
    have K:=aa.putC (b:=w.heap.size+1) (by omega) (tc ({ t with left:=t.q,due:=t.due+t.p })).toList 0 ((K1.out.setCell (p:=⟨w.heap.size,7,none⟩) (Nat.le_refl _) (.int .i64 (t.q))).setCell (p:=⟨w.heap.size,8,none⟩) (Nat.le_refl _) (.int .i64 (t.due+t.p)))
    change bodyPost _ _ _ _ _ (putC ((w1.setCell ⟨w.heap.size,7,none⟩ (.int .i64 (t.q))).setCell ⟨w.heap.size,8,none⟩ (.int .i64 (t.due+t.p))) (w.heap.size+1) 0 (tc ({ t with left:=t.q,due:=t.due+t.p })).toList)
    generalize putC ((w1.setCell ⟨w.heap.size,7,none⟩ (.int .i64 (t.q))).setCell ⟨w.heap.size,8,none⟩ (.int .i64 (t.due+t.p))) (w.heap.size+1) 0 (tc ({ t with left:=t.q,due:=t.due+t.p })).toList=X at D K ⊢
    exact bodyPost_ret (v:=tk ({ t with left:=t.q,due:=t.due+t.p })) (by simp [results,Tryz.results176,go_sem,D.cells]) rfl ⟨by rw [Hn.out],K⟩
   ·have hl':=of_decide_eq_true hl
    have Hn:Hid (j5 t now=t):=by show _=_;simp only [j5,se,decide_eq_false (show ¬ t.due <= now by omega),Bool.and_false,Bool.false_eq_true,if_false]
    go_wp2_with (go_at_call 27;refine (bn _ _ _ _).mono ?_;rintro e w' ⟨rfl,hw'⟩;have hw2:=hw'.symm;subst hw2)
    have D:=R.out.putC (tc (t)).toList rfl
    have K:=aa.putC (b:=w.heap.size+1) (by omega) (tc (t)).toList 0 K1.out
    change bodyPost _ _ _ _ _ (putC w1 (w.heap.size+1) 0 (tc (t)).toList)
    generalize putC w1 (w.heap.size+1) 0 (tc (t)).toList=X at D K ⊢
    exact bodyPost_ret (v:=tk (t)) (by simp [results,Tryz.results176,go_sem,D.cells]) rfl ⟨by rw [Hn.out],K⟩
def Lz:Prop:=∀ (a:Option Addr) (cap:Nat) (ts:List ag) (no:Int) (w:World),ts.length <= maxLen->Ts w a ts->Calls Tryz.prog 17 #[.slice a ts.length cap,.int .i64 no] w fun e w'=>e = .returned (.int .i64 (dA ts no)) /\ aa w w'
def LR:Prop:=∀ (a:Option Addr) (cap:Nat) (ts:List ag) (w:World),ts.length <= maxLen->Ts w a ts->Calls Tryz.prog 33 #[.slice a ts.length cap] w fun e w'=>e = .returned (.bool (di ts)) /\ aa w w'
def Lw:Prop:=∀ (t:ag) (w:World),Calls Tryz.prog 74 #[tk t] w fun e w'=>e = .returned (.bool (aY t)) /\ aa w w'
set_option maxHeartbeats 2000000 in
theorem CJ (t:ag) (now:Int) (w:World) :
  Calls Tryz.prog 201 #[tk t,.int .i64 now] w fun e w'=>e = .returned (tk (jE t now)) /\ aa w w':=by
 go_enter Tryz.func201,Tryz.ntmps201
 go_wp2_with fail
 refine (rh t _).mono ?_
 rintro e w1 ⟨rfl,k1⟩
 have B1:=((ai.new w (tc t) 43).alloc (.cells (tc ag.zero) 43)).keeps k1
 have B2:=(ai.new (w.alloc (.cells (tc t) 43)) (tc ag.zero) 43).keeps k1
 have K1:Hid (aa w w1):=(((aa.refl w).alloc _).alloc _).trans k1
 simp only [World.size_alloc] at B2
 have R:Hid (ai w1 (w.heap.size+1) (tc ag.zero)):=B2
 obtain ⟨_,b1,b2⟩:=B1
 obtain ⟨_,c1,c2⟩:=B2
 clear k1
 cases hd:dh t
 ·have Hn:Hid (jE t now=t):=by show _=_;simp [jE,qb,hd]
  go_wp2
  have D:=R.out.putC (tc (t)).toList rfl
  have K:=aa.putC (b:=w.heap.size+1) (by omega) (tc (t)).toList 0 K1.out
  change bodyPost _ _ _ _ _ (putC w1 (w.heap.size+1) 0 (tc (t)).toList)
  generalize putC w1 (w.heap.size+1) 0 (tc (t)).toList=X at D K ⊢
  exact bodyPost_ret (v:=tk (t)) (by simp [results,Tryz.results201,go_sem,D.cells]) rfl ⟨by rw [Hn.out],K⟩
 ·cases hi:aF now 0 100000
  ·have Hn:Hid (jE t now=t):=by show _=_;simp [jE,qb,hi]
   go_wp2_with (go_at_call 27;refine (bn _ _ _ _).mono ?_;rintro e w' ⟨rfl,hw'⟩;have hw2:=hw'.symm;subst hw2)
   have D:=R.out.putC (tc (t)).toList rfl
   have K:=aa.putC (b:=w.heap.size+1) (by omega) (tc (t)).toList 0 K1.out
   change bodyPost _ _ _ _ _ (putC w1 (w.heap.size+1) 0 (tc (t)).toList)
   generalize putC w1 (w.heap.size+1) 0 (tc (t)).toList=X at D K ⊢
   exact bodyPost_ret (v:=tk (t)) (by simp [results,Tryz.results201,go_sem,D.cells]) rfl ⟨by rw [Hn.out],K⟩
  ·have H:=(vx t).1 hd
   obtain ⟨p0,p1⟩:=H.p
   obtain ⟨q0,q1⟩:=H.q
   obtain ⟨l0,l1⟩:=H.left
   obtain ⟨d0,d1⟩:=H.due
   obtain ⟨n0,n1⟩:=dq.1 hi
   clear H
   cases hl:decide (t.due <= now)
   ·have hl':=of_decide_eq_false hl
    have m1:=CK (A:=40) (B:=40) l0 (by omega) (show 0 <= t.p by omega) p1
    have m2:=CK (A:=100040) (B:=40) (show 0 <= t.due - now by omega) (by omega) (show 0 <= t.q by omega) (by omega)
    have e1:IntKind.i64.wrap (t.left*t.p)=t.left*t.p:=Go.IntWalk.i64_in _ (by omega)
    have e2:IntKind.i64.wrap ((t.due - now)*t.q)=(t.due - now)*t.q:=Go.IntWalk.i64_in _ (by omega)
    clear m1 m2
    cases hm:decide ((t.due - now)*t.q < t.left*t.p)
    ·have Hn:Hid (jE t now=t):=by show _=_;simp only [jE,qb,t7,hl,hm,Bool.or_false,Bool.and_false,Bool.false_eq_true,if_false]
     go_wp2_with (go_at_call 27;refine (bn _ _ _ _).mono ?_;rintro e w' ⟨rfl,hw'⟩;have hw2:=hw'.symm;subst hw2)
     have D:=R.out.putC (tc (t)).toList rfl
     have K:=aa.putC (b:=w.heap.size+1) (by omega) (tc (t)).toList 0 K1.out
     change bodyPost _ _ _ _ _ (putC w1 (w.heap.size+1) 0 (tc (t)).toList)
     generalize putC w1 (w.heap.size+1) 0 (tc (t)).toList=X at D K ⊢
     exact bodyPost_ret (v:=tk (t)) (by simp [results,Tryz.results201,go_sem,D.cells]) rfl ⟨by rw [Hn.out],K⟩
    ·have Hn:Hid (jE t now={ t with left:=t.q,due:=now+t.p }):=by show _=_;simp only [jE,qb,t7,hl,hm,hd,hi,Bool.false_or,Bool.and_true,if_true]
     go_wp2_with (go_at_call 27;refine (bn _ _ _ _).mono ?_;rintro e w' ⟨rfl,hw'⟩;have hw2:=hw'.symm;subst hw2)
     have D:=((R.out.far (c:=w.heap.size) (o:=7) (by omega) (.int .i64 (t.q))).far (c:=w.heap.size) (o:=8) (by omega) (.int .i64 (now+t.p))).putC (tc ({ t with left:=t.q,due:=now+t.p })).toList rfl
     have K:=aa.putC (b:=w.heap.size+1) (by omega) (tc ({ t with left:=t.q,due:=now+t.p })).toList 0 ((K1.out.setCell (p:=⟨w.heap.size,7,none⟩) (Nat.le_refl _) (.int .i64 (t.q))).setCell (p:=⟨w.heap.size,8,none⟩) (Nat.le_refl _) (.int .i64 (now+t.p)))
     change bodyPost _ _ _ _ _ (putC ((w1.setCell ⟨w.heap.size,7,none⟩ (.int .i64 (t.q))).setCell ⟨w.heap.size,8,none⟩ (.int .i64 (now+t.p))) (w.heap.size+1) 0 (tc ({ t with left:=t.q,due:=now+t.p })).toList)
     generalize putC ((w1.setCell ⟨w.heap.size,7,none⟩ (.int .i64 (t.q))).setCell ⟨w.heap.size,8,none⟩ (.int .i64 (now+t.p))) (w.heap.size+1) 0 (tc ({ t with left:=t.q,due:=now+t.p })).toList=X at D K ⊢
     exact bodyPost_ret (v:=tk ({ t with left:=t.q,due:=now+t.p })) (by simp [results,Tryz.results201,go_sem,D.cells]) rfl ⟨by rw [Hn.out],K⟩
   ·have Hn:Hid (jE t now={ t with left:=t.q,due:=now+t.p }):=by show _=_;simp only [jE,qb,t7,hl,hd,hi,Bool.true_or,Bool.and_true,if_true]
    go_wp2_with (go_at_call 27;refine (bn _ _ _ _).mono ?_;rintro e w' ⟨rfl,hw'⟩;have hw2:=hw'.symm;subst hw2)
    have D:=((R.out.far (c:=w.heap.size) (o:=7) (by omega) (.int .i64 (t.q))).far (c:=w.heap.size) (o:=8) (by omega) (.int .i64 (now+t.p))).putC (tc ({ t with left:=t.q,due:=now+t.p })).toList rfl
    have K:=aa.putC (b:=w.heap.size+1) (by omega) (tc ({ t with left:=t.q,due:=now+t.p })).toList 0 ((K1.out.setCell (p:=⟨w.heap.size,7,none⟩) (Nat.le_refl _) (.int .i64 (t.q))).setCell (p:=⟨w.heap.size,8,none⟩) (Nat.le_refl _) (.int .i64 (now+t.p)))
    change bodyPost _ _ _ _ _ (putC ((w1.setCell ⟨w.heap.size,7,none⟩ (.int .i64 (t.q))).setCell ⟨w.heap.size,8,none⟩ (.int .i64 (now+t.p))) (w.heap.size+1) 0 (tc ({ t with left:=t.q,due:=now+t.p })).toList)
    generalize putC ((w1.setCell ⟨w.heap.size,7,none⟩ (.int .i64 (t.q))).setCell ⟨w.heap.size,8,none⟩ (.int .i64 (now+t.p))) (w.heap.size+1) 0 (tc ({ t with left:=t.q,due:=now+t.p })).toList=X at D K ⊢
    exact bodyPost_ret (v:=tk ({ t with left:=t.q,due:=now+t.p })) (by simp [results,Tryz.results201,go_sem,D.cells]) rfl ⟨by rw [Hn.out],K⟩
end
def qc6 (xs:List Value) (k:Nat):List Value->List Value
 | []=>xs
 | v::r=>qc6 (xs.set k v) (k+1) r
theorem wN (A:List Value):∀ (L B:List Value) (k:Nat),qc6 (A++B) (A.length+k) L=A++qc6 B k L
 | [],_,_=>rfl
 | v::r,B,k=>by
  rw [qc6,qc6,List.set_append_right _ _ (by omega),Nat.add_assoc,show A.length+k - A.length=k by omega]
  exact wN A r (B.set k v) (k+1)
theorem CL:∀ (L A B:List Value),A.length=L.length->qc6 (A++B) 0 L=L++B
 | [],A,B,h=>by
  have:A=[]:=List.length_eq_zero_iff.1 h
  subst this
  rfl
 | v::r,[],B,h=>by simp at h
 | v::r,a::A,B,h=>by
  have h1:=wN [v] r (A++B) 0
  have h2:=CL r A B (by simpa using h)
  rw [qc6]
  simp only [List.cons_append,List.set_cons_zero,List.nil_append,List.length_singleton,Nat.add_zero,Nat.zero_add] at h1 ⊢
  rw [h1,h2]
theorem CM {α:Type} {c:α->Array Value} {sz:Nat} (hc:∀ x,(c x).size=sz) (x:α):∀ (xs:List α) (i:Nat),i < xs.length->qc6 (bD c xs) (i*sz) (c x).toList=bD c (xs.set i x)
 | [],i,h=>by simp at h
 | y::r,0,_=>by
  have e:bD c (y::r)=(c y).toList++bD c r:=rfl
  have e':bD c ((y::r).set 0 x)=(c x).toList++bD c r:=rfl
  rw [e,e',Nat.zero_mul]
  exact CL _ _ _ (by simp [hc])
 | y::r,i+1,h=>by
  have e:bD c (y::r)=(c y).toList++bD c r:=rfl
  have e':bD c ((y::r).set (i+1) x)=(c y).toList++bD c (r.set i x):=rfl
  have hl:(i+1)*sz=(c y).toList.length+i*sz:=by rw [Array.length_toList,hc,Nat.add_mul,Nat.one_mul,Nat.add_comm]
  rw [e,e',hl,wN,CM hc x r i (by simpa using h)]
theorem CR {base:Nat} {e:TypeId} {size g n cap:Nat}:∀ (L:List Value) (w:World) (k:Nat) (xs:List Value),w.ownsRow base e size (.slice (some ⟨g,0,none⟩) n cap) n xs ->
  (putC w g k L).ownsRow base e size (.slice (some ⟨g,0,none⟩) n cap) n (qc6 xs k L)
 | [],_,_,_,h=>h
 | v::r,_,k,_,h=>CR r _ (k+1) _ (h.stored k v).1
theorem Own.put {α:Type} {e:TypeId} {sz:Nat} {c:α->Array Value} {w:World} {base b cap:Nat} {xs:List α} (hc:∀ x,(c x).size=sz) (h:Own e sz c w base (.slice (Option.some ⟨b,0,none⟩) xs.length cap) xs) {i:Nat} (hi:i < xs.length) (x:α) :
  Own e sz c (putC w b (i*sz) (c x).toList) base (.slice (Option.some ⟨b,0,none⟩) (xs.set i x).length cap) (xs.set i x):=by
 unfold Own at h ⊢
 rw [<- CM hc x xs i hi,List.length_set]
 exact CR _ _ _ _ h
section
attribute [local go_sem] aa.refl aa.alloc aa.drew aa.drewN
def Gt:Prop:=∀ (a b:ag) (w:World),Calls Tryz.prog 323 #[tk a,tk b] w fun e w'=>e = .returned (.bool (fE a b)) /\ aa w w'
set_option maxHeartbeats 4000000 in
theorem wO (t:ag) (w:World) :
  Calls Tryz.prog 205 #[tk t] w fun e w'=>e = .returned (tk (nj t)) /\ aa w w':=by
 go_enter Tryz.func205,Tryz.ntmps205
 go_wp2_with fail
 refine (mP t _).mono ?_
 rintro e w1 ⟨rfl,k1⟩
 have B1:=((ai.new w (tc t) 43).alloc (.cells (tc ag.zero) 43)).keeps k1
 have B2:=(ai.new (w.alloc (.cells (tc t) 43)) (tc ag.zero) 43).keeps k1
 have K1:Hid (aa w w1):=(((aa.refl w).alloc _).alloc _).trans k1
 simp only [World.size_alloc] at B2
 have R:Hid (ai w1 (w.heap.size+1) (tc ag.zero)):=B2
 have B0:Hid (ai w1 w.heap.size (tc t)):=B1
 obtain ⟨_,b1,b2⟩:=B1
 obtain ⟨_,c1,c2⟩:=B2
 clear k1
 cases hd:dY t
 ·have Hn:Hid (nj t=t):=by show _=_;simp [nj,hd]
  go_wp2
  have D:=R.out.putC (tc (t)).toList rfl
  have K:=aa.putC (b:=w.heap.size+1) (by omega) (tc (t)).toList 0 K1.out
  change bodyPost _ _ _ _ _ (putC w1 (w.heap.size+1) 0 (tc (t)).toList)
  generalize putC w1 (w.heap.size+1) 0 (tc (t)).toList=X at D K ⊢
  exact bodyPost_ret (v:=tk (t)) (by simp [results,Tryz.results205,go_sem,D.cells]) rfl ⟨by rw [Hn.out],K⟩
 ·have H:=(sO t).1 hd
  obtain ⟨v0,v1⟩:=H.v
  have hst:=GL t.nice
  have e1:IntKind.i64.wrap (t.v+jZ t.nice)=t.v+jZ t.nice:=Go.IntWalk.i64_in _ (by omega)
  have Hn:Hid (nj t=lh t (t.v+jZ t.nice)):=by show _=_;simp [nj,hd]
  clear H hst
  obtain ⟨N,HN⟩:∃ N,Hid (lh t (t.v+jZ t.nice)=N):=⟨_,rfl⟩
  go_wp2_with fail
  have H0:Has w w.heap.size (tc t) w1:=⟨K1.out,B0.out⟩
  have r1:∀ w',Has w w.heap.size (tc t) w'->∀ k,w'.cell? ⟨w.heap.size,k,none⟩=(tc t)[k]?:=fun w' h=>h.box.cells
  clear b1 b2 c1 c2
  refine wp_region_held_drew (S:=(fun w'=>Has w w.heap.size (tc t) w')) (by kernel_rfl) ?_ (fun hHeld => ?_)
  ·exact H0.go (aa.refl _).drew
  refine ad.go [0,1,2,3,4] ?_
  iterate 5 (refine aJ (h := ?_);try simp only [ar])
  refine ad.nil ?_
  refine aO 5 (h:=fun K hK => ?_)
  go_simp
  first
   | (go_at_call 217;refine (BP _ _).mono ?_;rintro e w2 ⟨rfl,k2⟩)
   | (go_at_call 214;refine (tV t _ _).mono ?_;rintro e w3 ⟨rfl,k3⟩;rw [HN.out])
  try go_wp2_with fail
  refine hK.out _ _ ?_ fun hHeld => ?_
  ·first | exact Has.go (by assumption) (by assumption) | assumption
  clear hK K
  try simp only [ar]
  refine cU 6 (h := ?_)
  try simp only [ar]
  refine aO 7 (h:=fun K hK => ?_)
  go_simp
  first
   | (go_at_call 217;refine (BP _ _).mono ?_;rintro e w2 ⟨rfl,k2⟩)
   | (go_at_call 214;refine (tV t _ _).mono ?_;rintro e w3 ⟨rfl,k3⟩;rw [HN.out])
  try go_wp2_with fail
  refine hK.out _ _ ?_ fun hHeld => ?_
  ·first | exact Has.go (by assumption) (by assumption) | assumption
  clear hK K
  try simp only [ar]
  refine aO 8 (h:=fun K hK => ?_)
  have HB:=R.out.keeps (((aa.refl w1).drew.trans k2).trans k3);have HD:Hid (ai w3 (w.heap.size+1) (tc ag.zero)):=HB;obtain ⟨_,q1,q2⟩:=HB
  go_simp
  try go_wp2_with fail
  refine hK.out _ _ ?_ fun hHeld => ?_
  ·exact Has.put (by assumption) (r:=w.heap.size+1) (by omega) (by omega) 0 (tc N).toList
  clear hK K
  try simp only [ar]
  refine wpAnyH_done (by kernel_rfl) ?_ _
  go_wp2
  have D:=HD.out.putC (tc N).toList rfl
  have K:=aa.putC (b:=w.heap.size+1) (by omega) (tc N).toList 0 (K1.out.trans (((aa.refl w1).drew.trans k2).trans k3))
  change bodyPost _ _ _ _ _ (putC w3 (w.heap.size+1) 0 (tc N).toList)
  generalize putC w3 (w.heap.size+1) 0 (tc N).toList=X at D K ⊢
  exact bodyPost_ret (v:=tk N) (by simp [results,Tryz.results205,go_sem,D.cells]) rfl ⟨by rw [Hn.out,HN.out],K⟩
end
variable {p:Bool}
attribute [local go_sem] aa.refl aa.alloc aa.drew aa.drewN
theorem CS:∀ {ls:List Lk} {j:Nat} {l:Lk} (m:Lk),ls[j]?=some l->bC (ls.set j m)+l.waits.length=bC ls+m.waits.length
 | [],j,l,m,h=>by simp at h
 | x::r,0,l,m,h=>by
  simp at h
  subst h
  simp only [List.set_cons_zero,bC]
  omega
 | x::r,j+1,l,m,h=>by
  have:=CS (ls:=r) (j:=j) m (by simpa using h)
  simp only [List.set_cons_succ,bC]
  omega
theorem wE {ls:List Lk} {j:Nat} {l:Lk} (m:Lk) (h:ls[j]?=some l):bT (ls.set j m)+l.waits.length=bT ls+m.waits.length:=by
 have:=CS m h
 unfold bT
 rw [List.length_set]
 omega
theorem wP {ls:List Lk} (f:Lk->Lk) (j:Nat) (hf:∀ l,(f l).waits.length <= l.waits.length+1):bT (ls.modify j f) <= bT ls+1:=by
 cases h:ls[j]? with
 | none =>
  have hl:ls.length <= j:=by
   rcases Nat.lt_or_ge j ls.length with h1 | h1
   ·rw [List.getElem?_eq_getElem h1] at h;cases h
   ·exact h1
  have:ls.modify j f=ls:=by
   apply List.ext_getElem?
   intro i
   rw [List.getElem?_modify]
   by_cases e:j=i
   ·subst e;rw [h];rfl
   ·simp [e]
  rw [this];omega
 | some l =>
  rw [pW h]
  have:=wE (f l) h
  have:=hf l
  omega
theorem zW (ls:List Lk) (i no:Int):bT (bX ls i no) <= bT ls+1:=by
 unfold bX
 split
 ·simp [bT,bC]
 ·split
  ·exact wP _ _ fun l=>by simp [p7]
  ·split
   ·exact wP _ _ fun l=>by simp [tQ]
   ·omega
theorem GW (ls:List Lk) (i no next:Int):bT (dV ls i no next) <= bT ls+1:=by
 unfold dV
 split
 ·simp [bT,bC]
 ·split
  ·exact wP _ _ fun l=>by have:=Nb l.waits next;simp [pQ];omega
  ·omega
section
attribute [local go_sem] aa.refl aa.alloc aa.drew aa.drewN
set_option maxHeartbeats 4000000 in
theorem FY (t:ag) (cpu fq dst:Int) (w:World) :
  Calls Tryz.prog 153 #[tk t,.int .i64 cpu,.int .i64 fq,.int .i64 dst] w fun e w'=>e = .returned (tk (jf t cpu fq dst)) /\ aa w w':=by
 go_enter Tryz.func153,Tryz.ntmps153
 go_wp2_with fail
 refine (mP t _).mono ?_
 rintro e w1 ⟨rfl,k1⟩
 have B1:=((ai.new w (tc t) 43).alloc (.cells (tc ag.zero) 43)).keeps k1
 have B2:=(ai.new (w.alloc (.cells (tc t) 43)) (tc ag.zero) 43).keeps k1
 have K1:Hid (aa w w1):=(((aa.refl w).alloc _).alloc _).trans k1
 simp only [World.size_alloc] at B2
 have R:Hid (ai w1 (w.heap.size+1) (tc ag.zero)):=B2
 have B0:Hid (ai w1 w.heap.size (tc t)):=B1
 obtain ⟨_,b1,b2⟩:=B1
 obtain ⟨_,c1,c2⟩:=B2
 clear k1
 cases hd:dY t
 ·have Hn:Hid (jf t cpu fq dst=t):=by show _=_;simp [jf,oB,hd]
  go_wp2_with (first | (go_at_call 27;refine (bn _ _ _ _).mono ?_;rintro e w' ⟨rfl,hw'⟩;have hw2:=hw'.symm;subst hw2) | (go_at_call 56;refine (mO _ _ _).mono ?_;rintro e w' ⟨rfl,hw'⟩;have hw2:=hw'.symm;subst hw2))
  have D:=R.out.putC (tc (t)).toList rfl
  have K:=aa.putC (b:=w.heap.size+1) (by omega) (tc (t)).toList 0 K1.out
  change bodyPost _ _ _ _ _ (putC w1 (w.heap.size+1) 0 (tc (t)).toList)
  generalize putC w1 (w.heap.size+1) 0 (tc (t)).toList=X at D K ⊢
  exact bodyPost_ret (v:=tk (t)) (by simp [results,Tryz.results153,go_sem,D.cells]) rfl ⟨by rw [Hn.out],K⟩
 ·skip
  cases h1:aF cpu 0 3
  ·have Hn:Hid (jf t cpu fq dst=t):=by show _=_;simp [jf,oB,h1]
   go_wp2_with (first | (go_at_call 27;refine (bn _ _ _ _).mono ?_;rintro e w' ⟨rfl,hw'⟩;have hw2:=hw'.symm;subst hw2) | (go_at_call 56;refine (mO _ _ _).mono ?_;rintro e w' ⟨rfl,hw'⟩;have hw2:=hw'.symm;subst hw2))
   have D:=R.out.putC (tc (t)).toList rfl
   have K:=aa.putC (b:=w.heap.size+1) (by omega) (tc (t)).toList 0 K1.out
   change bodyPost _ _ _ _ _ (putC w1 (w.heap.size+1) 0 (tc (t)).toList)
   generalize putC w1 (w.heap.size+1) 0 (tc (t)).toList=X at D K ⊢
   exact bodyPost_ret (v:=tk (t)) (by simp [results,Tryz.results153,go_sem,D.cells]) rfl ⟨by rw [Hn.out],K⟩
  ·skip
   cases h2:aF fq 0 100000000
   ·have Hn:Hid (jf t cpu fq dst=t):=by show _=_;simp [jf,oB,h2]
    go_wp2_with (first | (go_at_call 27;refine (bn _ _ _ _).mono ?_;rintro e w' ⟨rfl,hw'⟩;have hw2:=hw'.symm;subst hw2) | (go_at_call 56;refine (mO _ _ _).mono ?_;rintro e w' ⟨rfl,hw'⟩;have hw2:=hw'.symm;subst hw2))
    have D:=R.out.putC (tc (t)).toList rfl
    have K:=aa.putC (b:=w.heap.size+1) (by omega) (tc (t)).toList 0 K1.out
    change bodyPost _ _ _ _ _ (putC w1 (w.heap.size+1) 0 (tc (t)).toList)
    generalize putC w1 (w.heap.size+1) 0 (tc (t)).toList=X at D K ⊢
    exact bodyPost_ret (v:=tk (t)) (by simp [results,Tryz.results153,go_sem,D.cells]) rfl ⟨by rw [Hn.out],K⟩
   ·skip
    cases h3:aF dst 0 100000000
    ·have Hn:Hid (jf t cpu fq dst=t):=by show _=_;simp [jf,oB,h3]
     go_wp2_with (first | (go_at_call 27;refine (bn _ _ _ _).mono ?_;rintro e w' ⟨rfl,hw'⟩;have hw2:=hw'.symm;subst hw2) | (go_at_call 56;refine (mO _ _ _).mono ?_;rintro e w' ⟨rfl,hw'⟩;have hw2:=hw'.symm;subst hw2))
     have D:=R.out.putC (tc (t)).toList rfl
     have K:=aa.putC (b:=w.heap.size+1) (by omega) (tc (t)).toList 0 K1.out
     change bodyPost _ _ _ _ _ (putC w1 (w.heap.size+1) 0 (tc (t)).toList)
     generalize putC w1 (w.heap.size+1) 0 (tc (t)).toList=X at D K ⊢
     exact bodyPost_ret (v:=tk (t)) (by simp [results,Tryz.results153,go_sem,D.cells]) rfl ⟨by rw [Hn.out],K⟩
    ·skip
     have H:=(sO t).1 hd
     obtain ⟨v0,v1⟩:=H.v
     obtain ⟨f0,f1⟩:=dq.1 h2
     obtain ⟨d0,d1⟩:=dq.1 h3
     have e1:IntKind.i64.wrap (t.v - fq)=t.v - fq:=Go.IntWalk.i64_in _ (by omega)
     have e2:IntKind.i64.wrap (dst+max (t.v - fq) 0)=dst+max (t.v - fq) 0:=Go.IntWalk.i64_in _ (by omega)
     clear H
     cases h4:decide (100000000 < dst+max (t.v - fq) 0)
     ·have Hn:Hid (jf t cpu fq dst={ t with cpu:=cpu,v:=dst+max (t.v - fq) 0 }):=by show _=_;simp only [jf,oB,hd,h1,h2,h3,h4,Bool.and_true,Bool.not_false,if_true]
      go_wp2_with (first | (go_at_call 27;refine (bn _ _ _ _).mono ?_;rintro e w' ⟨rfl,hw'⟩;have hw2:=hw'.symm;subst hw2) | (go_at_call 56;refine (mO _ _ _).mono ?_;rintro e w' ⟨rfl,hw'⟩;have hw2:=hw'.symm;subst hw2))
      have D:=((R.out.far (c:=w.heap.size) (o:=2) (by omega) (.int .i64 cpu)).far (c:=w.heap.size) (o:=13) (by omega) (.int .i64 (dst+max (t.v - fq) 0))).putC (tc ({ t with cpu:=cpu,v:=dst+max (t.v - fq) 0 })).toList rfl
      have K:=aa.putC (b:=w.heap.size+1) (by omega) (tc ({ t with cpu:=cpu,v:=dst+max (t.v - fq) 0 })).toList 0 ((K1.out.setCell (p:=⟨w.heap.size,2,none⟩) (Nat.le_refl _) (.int .i64 cpu)).setCell (p:=⟨w.heap.size,13,none⟩) (Nat.le_refl _) (.int .i64 (dst+max (t.v - fq) 0)))
      change bodyPost _ _ _ _ _ (putC ((w1.setCell ⟨w.heap.size,2,none⟩ (.int .i64 cpu)).setCell ⟨w.heap.size,13,none⟩ (.int .i64 (dst+max (t.v - fq) 0))) (w.heap.size+1) 0 (tc ({ t with cpu:=cpu,v:=dst+max (t.v - fq) 0 })).toList)
      generalize putC ((w1.setCell ⟨w.heap.size,2,none⟩ (.int .i64 cpu)).setCell ⟨w.heap.size,13,none⟩ (.int .i64 (dst+max (t.v - fq) 0))) (w.heap.size+1) 0 (tc ({ t with cpu:=cpu,v:=dst+max (t.v - fq) 0 })).toList=X at D K ⊢
      exact bodyPost_ret (v:=tk ({ t with cpu:=cpu,v:=dst+max (t.v - fq) 0 })) (by simp [results,Tryz.results153,go_sem,D.cells]) rfl ⟨by rw [Hn.out],K⟩
     ·have Hn:Hid (jf t cpu fq dst=t):=by show _=_;simp only [jf,oB,h4,Bool.and_false,Bool.not_true,Bool.false_eq_true,if_false]
      go_wp2_with (first | (go_at_call 27;refine (bn _ _ _ _).mono ?_;rintro e w' ⟨rfl,hw'⟩;have hw2:=hw'.symm;subst hw2) | (go_at_call 56;refine (mO _ _ _).mono ?_;rintro e w' ⟨rfl,hw'⟩;have hw2:=hw'.symm;subst hw2))
      have D:=R.out.putC (tc (t)).toList rfl
      have K:=aa.putC (b:=w.heap.size+1) (by omega) (tc (t)).toList 0 K1.out
      change bodyPost _ _ _ _ _ (putC w1 (w.heap.size+1) 0 (tc (t)).toList)
      generalize putC w1 (w.heap.size+1) 0 (tc (t)).toList=X at D K ⊢
      exact bodyPost_ret (v:=tk (t)) (by simp [results,Tryz.results153,go_sem,D.cells]) rfl ⟨by rw [Hn.out],K⟩
def Lo:Prop:=∀ (a b:ag) (w:World),Calls Tryz.prog 330 #[tk a,tk b] w fun e w'=>e = .returned (.bool (fO a b)) /\ aa w w'
def Il:Prop:=∀ (a b:ag) (w:World),Calls Tryz.prog 303 #[tk a,tk b] w fun e w'=>e = .returned (.bool (fQ a b)) /\ aa w w'
structure DK (w wr:World) (g:Nat) (v:Value) (ls:List Lk):Prop where
 mine:∃ vs,Mine wr w.heap.size wr.heap.size v vs ls
 cur:bj wr g
 kb:ab g w wr
theorem DK.but {w wr wr':World} {g:Nat} {v:Value} {ls:List Lk} (h:DK w wr g v ls) (hg:g < w.heap.size) (k:ab g wr wr') (hc:bj wr' g):DK w wr' g v ls:=by
 obtain ⟨vs,M⟩:=h.mine
 exact ⟨⟨vs,(M.same fun b h1 _ h3=>k.block b h3 (by omega)).widen (Nat.le_refl _) k.size⟩,hc,h.kb.trans k⟩
theorem DK.keeps {w wr wr':World} {g:Nat} {v:Value} {ls:List Lk} (h:DK w wr g v ls) (hg:g < w.heap.size) (k:aa wr wr'):DK w wr' g v ls:=h.but hg (.of k) (h.cur.keeps k)
theorem Cf (n:Nat):bT (List.replicate n (⟨0,[]⟩:Lk))=n:=by
 have:bC (List.replicate n (⟨0,[]⟩:Lk))=0:=by
  induction n with
  | zero=>rfl
  | succ n ih=>rw [List.replicate_succ];simp only [bC,ih];rfl
 unfold bT
 rw [this]
 simp
theorem Ce (n:Nat) (hn:n <= 1048576) (z:Int) (hz:z=(n:Int)):∀ w:World,(Instr.makeSlice 25 (.int .i64 z) (.int .i64 z)).run Tryz.prog w = .ok (.slice (some ⟨w.heap.size,0,none⟩) n n) (w.alloc (.cells (madeCells #[.int .i64 0,.slice none 0 0] (n*2)) 37)):=by
 subst hz
 have hmk:=tD (P:=Tryz.prog) 25 37 (.agg #[.int .i64 0,.slice none 0 0]) 2 32 Tryz.underlying25 (by kernel_rfl) n (by omega) (by omega)
 simp only [Value.cells] at hmk
 exact hmk
theorem DK.made {w wr:World} {g:Nat} (hc:bj wr g) (k:ab g w wr) (n:Nat) (hn:n <= 1048576):DK w (wr.alloc (.cells (madeCells #[.int .i64 0,.slice none 0 0] (n*2)) 37)) g (.slice (some ⟨wr.heap.size,0,none⟩) n n) (List.replicate n ⟨0,[]⟩) :=
 ⟨⟨_,(Mine.zero wr n (by unfold maxLen;omega)).widen k.size (by simp)⟩,hc.keeps ((aa.refl _).alloc _),k.alloc _⟩
set_option maxHeartbeats 8000000 in
theorem MA (g:Nat) (w:World) (hc:bj w g) :
  Calls Tryz.prog 101 #[.pointer (some ⟨g,0,none⟩)] w fun e w'=>∃ (v:Value) (ls:List Lk),e = .returned v /\ DK w w' g v ls /\ 1 <= ls.length /\ ls.length <= 4 /\ bT ls <= 16:=by
 have hgl:=hc.lt
 go_enter Tryz.func101,Tryz.ntmps101
 go_wp2_with fail
 refine (cF g _ _ hc (by omega) (by omega)).mono ?_
 rintro e w1 ⟨m,rfl,hm0,hm1,hc1,k1⟩
 obtain ⟨n,Hn⟩:∃ n:Nat,Hid (1+m=(n:Int)):=⟨(1+m).toNat,by show _=_;omega⟩
 have hn1:1 <= n:=by have:=Hn.out;omega
 have jR:n <= 4:=by have:=Hn.out;omega
 have hmk:=Ce n (by omega) (1+m) Hn.out
 have D0:Hid (DK w (w1.alloc (.cells (madeCells #[.int .i64 0,.slice none 0 0] (n*2)) 37)) g (.slice (some ⟨w1.heap.size,0,none⟩) n n) (List.replicate n ⟨0,[]⟩)):=DK.made hc1 k1 n (by omega)
 clear k1 hc hc1
 go_wp2_with fail
 clear hmk
 generalize w1.alloc (.cells (madeCells #[.int .i64 0,.slice none 0 0] (n*2)) 37)=W at *
 generalize hv0:Value.slice (some ⟨w1.heap.size,0,none⟩) n n=v0 at *
 clear hv0
 refine (cF g _ _ D0.out.cur (by omega) (by omega)).mono ?_
 rintro e w2 ⟨q,rfl,hq0,hq1,hc2,k2⟩
 have D2:Hid (DK w w2 g v0 (List.replicate n ⟨0,[]⟩)):=D0.out.but hgl k2 hc2
 clear D0 k2 hc2
 obtain ⟨r,rfl⟩:=Int.eq_ofNat_of_zero_le hq0
 have hr:r < 12:=by omega
 go_wp2
 go_loopw [3,5] (fun v i wr=>∃ (k:Nat) (ls:List Lk),k <= r /\ i = .int .i64 k /\ Hid (DK w wr g v ls) /\ Hid (Right ls) /\ Hid (ls.length=n) /\ Hid (bT ls <= n+k)) (fun _ i _=>r - (intOf i).toNat)
 case atStart=>exact ⟨0,_,Nat.zero_le _,rfl,D2,Nn (by omega),by show _=_;simp,by show _ <= _;rw [Cf];omega⟩
 case round =>
  obtain ⟨k,ls,hk,rfl,D,R,hl,hsz⟩:=hrel
  clear D2
  by_cases hlt:k < r
  ·have hlt':(k:Int) < (r:Int):=by omega
   obtain ⟨vs,M⟩:=D.out.mine
   obtain ⟨a,cap,rfl,-,-,-⟩:=M.args
   clear M vs
   rw [hl.out] at D ⊢
   go_wp2_with fail
   refine (cF g _ _ D.out.cur (by omega) (by omega)).mono ?_
   rintro e w3 ⟨x,rfl,hx0,hx1,hc3,k3⟩
   have D3:Hid (DK w w3 g (.slice a n cap) ls):=D.out.but hgl k3 hc3
   clear D hc3 k3
   go_wp2_with fail
   refine (cF g _ _ D3.out.cur (by omega) (by omega)).mono ?_
   rintro e w4 ⟨y,rfl,hy0,hy1,hc4,k4⟩
   have D4:Hid (DK w w4 g (.slice a n cap) ls):=D3.out.but hgl k4 hc4
   clear D3 hc4 k4
   have L4:Hid (dU true w4 a ls):=by
    obtain ⟨vs,M⟩:=D4.out.mine
    obtain ⟨a',cap',e,L,-,-⟩:=M.args
    simp only [Value.slice.injEq] at e
    obtain ⟨rfl,-,-⟩:=e
    exact L
   go_wp2_with fail
   have SA:=zb a cap ls x (1+y) w4 (by have:=hsz.out;omega) L4.out
   rw [hl.out] at SA
   refine SA.mono ?_
   rintro e w5 ⟨v5,fS,rfl,M5,k5⟩
   have hR:=No R.out x (1+y)
   have D5:Hid (DK w w5 g v5 (bX ls x (1+y))):=⟨⟨fS,M5.widen (D4.out.kb.size) (Nat.le_refl _)⟩,D4.out.cur.keeps k5,D4.out.kb.trans (.of k5)⟩
   have hs5:Hid (bT (bX ls x (1+y)) <= n+(k+1)):=by show _ <= _;have:=zW ls x (1+y);have:=hsz.out;omega
   have hl5:Hid ((bX ls x (1+y)).length=n):=by show _=_;rw [hR.2];exact hl.out
   have R5:Hid (Right (bX ls x (1+y))):=hR.1
   clear SA M5 k5 hR D4 L4
   go_wp2
   exact ⟨⟨k+1,_,by omega,by go_num,D5,R5,hl5,hs5⟩,by simp only [intOf];omega⟩
  ·go_wp2
   go_ret
   exact ⟨_,ls,rfl,D.out,by rw [hl.out];exact hn1,by rw [hl.out];exact jR,by have:=hsz.out;omega⟩
end
variable {p p':Bool}
attribute [local go_sem] aa.refl aa.alloc aa.drew aa.drewN
structure Gh where
 cpu:Int
 q:Int
 p:Int
 fU:Int
structure Tn where
 cpu:Int
 ctx:Int
 exe:Int
structure Sy where
 now:Int
 az:Int
 tasks:List ag
 af:List Lk
 ah:List Gh
 ax:List Int
 seq:Int
 missed:Int
 trace:List Tn
def Gh.zero:Gh:=⟨0,0,0,0⟩
def Tn.zero:Tn:=⟨0,0,0⟩
def Sy.zero:Sy:=⟨0,0,[],[],[],[],0,0,[]⟩
def jo (ts:List ag) (cpu:Int) (x:Int):Bool:=bF ts x&&(de ts x).cpu==cpu
def iC (ts:List ag) (l:Lk):Bool:=l.owner==0||(bF ts l.owner&&l.waits.all (jo ts (de ts l.owner).cpu))
def gy (s:Sy):Bool:=s.af.length==5&&(dm s.af&&s.af.all (iC s.tasks))
def fY (cpu:Int) (t:ag):Bool:=t.cpu==cpu&&t.cls==1
def gW (t:ag):Int × Int:=(t.q,t.p)
def ef (cpu:Int) (g:Gh):Bool:=g.cpu==cpu
def iP (g:Gh):Int × Int:=(g.q,g.p)
def fe (s:Sy) (cpu:Int):List (Int × Int):=(s.tasks.filter (fY cpu)).map gW++(s.ah.filter (ef cpu)).map iP
def ku (az:Int) (g:Gh):Bool:=aF g.cpu 0 (az - 1)&&(okB g.q g.p&&aF g.fU 0 100040)
def jI (s:Sy):Bool:=s.ah.all (ku s.az)&&decide (s.ah.length <= 12)
def jY (xs:List (Int × Int)):Bool:=iT xs&&decide ((Plain.dc xs).1 <= (Plain.dc xs).2)
def kv (s:Sy):Bool:=aF s.now 0 100000&&(aF s.az 1 4&&(di s.tasks&&(gy s&&(jI s&&((s.ax.length:Int)==s.az&&(aF s.seq 0 1000000&&(aF s.missed 0 100000&&decide (s.trace.length <= 400))))))))
def ni (s:Sy) (cpu:Int):Int:=if aF cpu 0 ((s.ax.length:Int) - 1) then s.ax.getD cpu.toNat 0 else 0
def gu (s:Sy) (cpu:Nat):Bool:=aF (s.ax.getD cpu 0) 0 100000000&&jY (fe s cpu)
def bf (s:Sy):Bool:=kv s&&(s.tasks.all (fun t=>decide (t.cpu < s.az))&&(List.range s.az.toNat).all (gu s))
def aQ (az:Int):Sy:=if aF az 1 4 then { Sy.zero with az:=az,af:=List.replicate 5 ⟨0,[]⟩,ax:=List.replicate az.toNat 0 } else Sy.zero
def eS (s:Sy) (i no:Int):Bool:=aF i 0 ((s.af.length:Int) - 1)&&(bF s.tasks no&&(d7 s.af i.toNat==0||(bF s.tasks (d7 s.af i.toNat)&&(de s.tasks (d7 s.af i.toNat)).cpu==(de s.tasks no).cpu)))
section
attribute [local go_sem] aa.refl aa.alloc aa.drew aa.drewN
abbrev dM (g:Gh):Array Value:=#[.int .i64 g.cpu,.int .i64 g.q,.int .i64 g.p,.int .i64 g.fU]
abbrev eC (t:Tn):Array Value:=#[.int .i64 t.cpu,.int .i64 t.ctx,.int .i64 t.exe]
theorem jS (g:Gh):(dM g).size=4:=rfl
theorem jc (t:Tn):(eC t).size=3:=rfl
theorem qD (g:Gh):∀ u∈(dM g).toList,u.oneCell'=true:=by
 intro u hu
 simp at hu
 rcases hu with rfl | rfl | rfl | rfl <;> rfl
theorem pC (t:Tn):∀ u∈(eC t).toList,u.oneCell'=true:=by
 intro u hu
 simp at hu
 rcases hu with rfl | rfl | rfl <;> rfl
abbrev Gs (w:World) (a:Option Addr) (gs:List Gh):Prop:=cH 4 dM w a gs
abbrev Rs (w:World) (a:Option Addr) (rs:List Tn):Prop:=cH 3 eC w a rs
theorem Np {α:Type} {c:α->Array Value} {sz:Nat} (hc:∀ x,(c x).size=sz) (hsz:0 < sz) (z:α) (n:Nat):(madeCells (c z) (n*sz)).toList=bD c (List.replicate n z):=by
 apply List.ext_getElem?
 intro j
 by_cases hj:j < n*sz
 ·have hq:j / sz < n:=Nat.div_lt_of_lt_mul (by rw [Nat.mul_comm];exact hj)
  have hm:j % sz < sz:=Nat.mod_lt _ hsz
  have hjj:j / sz*sz+j % sz=j:=by rw [Nat.mul_comm];exact Nat.div_add_mod j sz
  have h:=np hc (List.replicate n z) (j / sz) z (by simp [hq]) (j % sz) hm
  rw [hjj] at h
  rw [h]
  simp only [madeCells,Array.getElem?_toList,Array.getElem?_map,Array.getElem?_range,hj,if_true,Option.map_some,hc]
  rw [Array.getElem?_eq_getElem (by rw [hc];exact hm)]
  simp [hc,hm]
 ·rw [List.getElem?_eq_none (by simpa [madeCells] using hj),List.getElem?_eq_none]
  have:=iu hc (List.replicate n z)
  simp at this
  omega
theorem Own.zeros {α:Type} {e:TypeId} {c:α->Array Value} {sz:Nat} (hc:∀ x,(c x).size=sz) (hsz:0 < sz) (z:α) (w:World) (n:Nat) (hn:n <= maxLen) :
  Own e sz c (w.alloc (.cells (madeCells (c z) (n*sz)) e)) w.heap.size (.slice (Option.some ⟨w.heap.size,0,none⟩) n n) (List.replicate n z):=by
 have h:=World.ownsRow_lit (e:=e) (size:=sz) (base:=w.heap.size) w (madeCells (c z) (n*sz)) n (Nat.le_refl _) hn (size_madeCells _ _)
 rw [Np hc hsz] at h
 unfold Own
 rw [List.length_replicate]
 exact h
end
end Go.Proofs.YteagpjlgjfaclaaGreatDoor
