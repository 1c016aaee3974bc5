/-
  Locks: the contract of the model's asking for one.
  Weights and steps: the model's, and the laws' walks over co
  Lists of tasks are marked, and looked at again: the laws' o
  Locks: all that wait; right locks are few numbers.
  Locks: the contract of the model's freeing one.
  Fair shares, as plain functions, and what holds of them.
-/
import Derived.Test.YteagpjlgjfaclaaGreatDoorLockCopy
import Derived.Test.YteagpjlgjfaclaaGreatDoorPlain1
import Derived.Test.YteagpjlgjfaclaaGreatDoorTaskList
import Derived.Test.YteagpjlgjfaclaaGreatDoorLockSpec2
import Derived.Test.YteagpjlgjfaclaaGreatDoorTaskSpec
namespace Go.Proofs.YteagpjlgjfaclaaGreatDoor
set_option maxRecDepth 100000
open Go.RowKit
section
attribute [local go_sem] aa.refl aa.alloc aa.drew aa.drewN
theorem pO {ls:List Lk} {i:Nat} {l:Lk} (h:ls[i]?=some l) (f:Lk->Lk):ls.modify i f=ls.set i (f l):=by
 apply List.ext_getElem?
 intro j
 by_cases e:i=j
 ·subst e
  rw [List.getElem?_modify,List.getElem?_set_self (cZ h),h]
  simp
 ·rw [List.getElem?_modify,List.getElem?_set_ne e]
  simp [e]
theorem H9 {ls:List Lk} {no:Int} (h:decide (0 <= dS ls no)=false):dS ls no = -1:=by
 unfold dS at h ⊢
 split
 ·rename_i i hi;rw [hi] at h;simp at h
 ·rfl
set_option maxHeartbeats 8000000 in
theorem vF (a:Option Addr) (cap:Nat) (ls:List Lk) (i no:Int) (w:World) (hl:bR ls <= 2097152) (hs:dL true w a ls) :
  Calls Tryz.prog 150 #[.slice a ls.length cap,.int .i64 i,.int .i64 no] w fun e w'=>∃ v vs,e = .returned (.tuple #[v,.int .i64 (cf ls i no)]) /\ Mine w' w.heap.size w'.heap.size v vs (bM ls i no) /\ aa w w':=by
 have HL:Hid (bR ls <= 2097152):=hl
 have hl0:ls.length <= 2097152:=by unfold bR at hl;omega
 clear hl
 have HS:Hid (dL true w a ls):=hs
 clear hs
 have Ia:Hid (ls.length <= maxLen):=by show _ <= _;unfold maxLen;omega
 have LO:Hid (∀ w',aa w w'->Calls Tryz.prog 70 #[.slice a ls.length cap] w' fun e w''=>e = .returned (.bool (du ls)) /\ aa w' w''):=fun w' h=>rL a cap ls w' HL.out (HS.out.keeps h)
 have CP:Hid (∀ w',aa w w'->Calls Tryz.prog 90 #[.slice a ls.length cap] w' fun e w''=>∃ v vs,e = .returned v /\ Mine w'' w'.heap.size w''.heap.size v vs ls /\ aa w' w''):=fun w' h=>uk a cap ls w' HL.out (HS.out.keeps h)
 have WA:Hid (∀ w',aa w w'->Calls Tryz.prog 84 #[.slice a ls.length cap,.int .i64 no] w' fun e w''=>e = .returned (.int .i64 (dS ls no)) /\ aa w' w''):=fun w' h=>rM a cap ls no w' Ia.out (HS.out.keeps h)
 have CO:Hid (∀ x w',aa w w'->Calls Tryz.prog 181 #[.slice a ls.length cap,.int .i64 x] w' fun e w''=>∃ v,e = .returned v /\ aS w'' w'.heap.size v (hM ls x) /\ aa w' w''):=fun x w' h=>Ib a cap ls x w' HL.out (HS.out.keeps h)
 generalize hn:ls.length=n at hl0
 have Hn:Hid (ls.length=n):=hn
 rw [hn] at LO CP WA CO
 clear hn
 cases hb:du ls
 ·have Hr:Hid (cf ls i no=2):=by show _=_;unfold cf;rw [hb];rfl
  have Hq:Hid (bM ls i no=[]):=by show _=_;unfold bM;rw [hb];rfl
  rw [hb] at LO
  go_enter Tryz.func150,Tryz.ntmps150
  go_wp2_with (go_at_call 70;refine (LO.out _ (aa.refl _)).mono ?_;rintro e w1 ⟨rfl,k1⟩)
  go_ret2
  refine ⟨_,[],by rw [Hr.out];rfl,?_,k1.alloc _⟩
  rw [Hq.out]
  exact Mine.none _ _ _ _ (Own.new 37 2 fF w1 k1.size) (fun q hq=>by simp [Value.ownBlock] at hq;simp;omega)
 rw [hb] at LO
 go_enter Tryz.func150,Tryz.ntmps150
 go_wp2_with (first
  | (go_at_call 70;refine (LO.out _ (aa.refl _)).mono ?_;rintro e w1 ⟨rfl,k1⟩)
  | fail)
 refine (CP.out _ k1).mono ?_
 rintro e w2 ⟨v,vs,rfl,M0,k2⟩
 have M:Hid (Mine w2 w.heap.size w2.heap.size v vs ls):=M0.widen k1.size (Nat.le_refl _)
 have K2:aa w w2:=k1.trans k2
 clear M0 k1 k2 LO CP
 have l8:IntKind.i64.wrap ((n:Int) - 1)=(n:Int) - 1:=Go.IntWalk.i64_in _ (by omega)
 have bad:∀ (h:(!aH i 0 ((n:Int) - 1)||(!aH no 1 1000||decide (0 <= dS ls no)))=true),cf ls i no=2 /\ bM ls i no=ls:=by
  intro h
  have e1:cf ls i no=2:=by unfold cf;rw [hb,Hn.out,h];rfl
  refine ⟨e1,?_⟩
  unfold bM
  rw [hb,e1];rfl
 have kL:Hid (∀ (_:(!aH i 0 ((n:Int) - 1)||(!aH no 1 1000||decide (0 <= dS ls no)))=true),cf ls i no=2 /\ bM ls i no=ls):=bad
 clear bad
 cases c1:aH i 0 ((n:Int) - 1)
 ·have Hr:=kL.out (by rw [c1];rfl)
  have ez:Hid (cf ls i no=2):=Hr.1
  have dE:Hid (bM ls i no=ls):=Hr.2
  clear Hr
  go_wp2_with (go_at_call 27;refine (bq _ _ _ _).mono ?_;rintro e w' ⟨rfl,hw'⟩;have hw2:=hw'.symm;subst hw2)
  go_ret2
  exact ⟨_,vs,by rw [ez.out];rfl,by rw [dE.out];exact M.out,K2⟩
 cases c2:aH no 1 1000
 ·have Hr:=kL.out (by rw [c2];simp)
  have ez:Hid (cf ls i no=2):=Hr.1
  have dE:Hid (bM ls i no=ls):=Hr.2
  clear Hr
  go_wp2_with (go_at_call 27;refine (bq _ _ _ _).mono ?_;rintro e w' ⟨rfl,hw'⟩;have hw2:=hw'.symm;subst hw2)
  go_ret2
  exact ⟨_,vs,by rw [ez.out];rfl,by rw [dE.out];exact M.out,K2⟩
 cases c3:decide (0 <= dS ls no)
 rotate_left
 ·have Hr:=kL.out (by rw [c3];simp)
  have ez:Hid (cf ls i no=2):=Hr.1
  have dE:Hid (bM ls i no=ls):=Hr.2
  clear Hr
  go_wp2_with (first
   | (go_at_call 27;refine (bq _ _ _ _).mono ?_;rintro e w' ⟨rfl,hw'⟩;have hw2:=hw'.symm;subst hw2)
   | (go_at_call 84;refine (WA.out _ K2).mono ?_;rintro e w3 ⟨rfl,k3⟩))
  go_ret2
  exact ⟨_,vs,by rw [ez.out];rfl,by rw [dE.out];exact M.out.keeps k3 |>.widen (Nat.le_refl _) k3.size,K2.trans k3⟩
 have rr:Hid (dS ls no = -1):=H9 c3
 rw [rr.out] at WA
 obtain ⟨h0,h1⟩:=dq.1 c1
 obtain ⟨j,rfl⟩:∃ j:Nat,i=(j:Int):=⟨i.toNat,by omega⟩
 have hj:j < n:=by omega
 have hj':(j:Int) < (n:Int):=by omega
 obtain ⟨l,hl1⟩:=cd (xs:=ls) (k:=j) (by rw [Hn.out];exact hj)
 obtain ⟨b,off,a',cap',rfl,r0,r1,-,-⟩:=HS.out.at hl1
 have Hl:Hid (ls[j]?=some l):=hl1
 have Ho:Hid (dY ls (j:Int).toNat=l.owner):=by show _=_;rw [Int.toNat_natCast];exact iP hl1
 have go:Hid (cf ls (j:Int) no=if l.owner==no then 3 else if l.owner==0 then 0 else if hasB (hM ls l.owner) no then 4 else 1):=by
  show _=_
  unfold cf
  rw [hb,Hn.out,c1,c2,c3,Ho.out]
  rfl
 clear hl1 r1 kL h0 h1
 cases c4:(l.owner==no)
 rotate_left
 ·have ez:Hid (cf ls (j:Int) no=3):=by show _=_;rw [go.out,c4];rfl
  have dE:Hid (bM ls (j:Int) no=ls):=by show _=_;unfold bM;rw [hb,ez.out];rfl
  go_wp2_with (first
   | (go_at_call 27;refine (bq _ _ _ _).mono ?_;rintro e w' ⟨rfl,hw'⟩;have hw2:=hw'.symm;subst hw2)
   | (go_at_call 84;refine (WA.out _ K2).mono ?_;rintro e w3 ⟨rfl,k3⟩;have kk:aa w w3:=K2.trans k3))
  go_ret2
  exact ⟨_,vs,by rw [ez.out];rfl,by rw [dE.out];exact M.out.keeps k3 |>.widen (Nat.le_refl _) k3.size,kk⟩
 have kf:Hid (vs.length=n):=M.out.len.trans Hn.out
 obtain ⟨b3,hO,ev⟩:=M.out.own.blk (by rw [kf.out];omega)
 rw [kf.out] at ev
 subst ev
 obtain ⟨x,hx⟩:=cd (xs:=vs) (k:=j) (by rw [kf.out];exact hj)
 have Hx:Hid (vs[j]?=some x):=hx
 have O0:Own 37 2 fF w2 w.heap.size (.slice (some ⟨b3,0,none⟩) vs.length hO) vs:=by rw [kf.out];exact M.out.own
 have bl:Hid (b3 < w2.heap.size):=(O0.cr b3 rfl).2
 have nk:Hid (w.heap.size <= b3):=(O0.cr b3 rfl).1
 have s0:∀ w',aa w2 w'->w'.cell? ⟨b3,j*2,none⟩=some (.int .i64 x.o):=aa.has (O0.cellAt gz (k:=0) hx (by omega))
 have s1:∀ w',aa w2 w'->w'.cell? ⟨b3,j*2+1,none⟩=some x.row:=aa.has (O0.cellAt gz (k:=1) hx (by omega))
 have s2:∀ w',aa w2 w'->∀ o,w'.frozen? ⟨b3,o,none⟩=false:=fun w' h o=>(h.aO _ _ bl.out).trans (O0.frozenAt o)
 have X1:=(M.out.rows j x l hx Hl.out)
 have OX:Hid (∀ w',aa w2 w'->aS w' w.heap.size x.row l.waits):=fun w' h=>X1.2.keeps h
 have Xb:Hid (∀ q,x.row.ownBlock=some q->q < w2.heap.size /\ q≠b3):=fun q hq=>⟨(X1.2.cr q hq).2,fun e=>(M.out.fx j x q hx hq).2 (by rw [e];rfl)⟩
 have Xo:Hid (x.o=l.owner):=X1.1
 have hw1:Hid (l.waits.length <= 2097152):=by show _ <= _;have:=lh Hl.out;have:=HL.out;unfold bR at this;omega
 clear X1 O0 hx
 obtain ⟨xo,xa,xn,xc⟩:=x
 dsimp only at s0 s1
 cases c5:(l.owner==0)
 rotate_left
 ·have ez:Hid (cf ls (j:Int) no=0):=by show _=_;rw [go.out,c4,c5];rfl
  have dE:Hid (bM ls (j:Int) no=ls.set j { l with owner:=no }):=by show _=_;unfold bM;rw [hb,ez.out,Int.toNat_natCast,pO Hl.out (oh no)];rfl
  go_wp2_with (first
   | (go_at_call 27;refine (bq _ _ _ _).mono ?_;rintro e w' ⟨rfl,hw'⟩;have hw2:=hw'.symm;subst hw2)
   | (go_at_call 84;refine (WA.out _ K2).mono ?_;rintro e w3 ⟨rfl,k3⟩;have kk:aa w w3:=K2.trans k3))
  go_ret2
  refine ⟨_,vs.set j ⟨no,xa,xn,xc⟩,by rw [ez.out];rfl,?_,kk.setCell (p:=⟨b3,j*2,none⟩) nk.out _⟩
  rw [dE.out]
  have m:Mine w3 w.heap.size w3.heap.size (.slice (some ⟨b3,0,none⟩) vs.length hO) vs ls:=by rw [kf.out];exact (M.out.keeps k3).widen (Nat.le_refl _) k3.size
  have:=m.eL Hx.out Hl.out no
  rw [List.length_set,kf.out] at this
  simpa using this
 cases c6:hasB (hM ls l.owner) no
 rotate_left
 ·have ez:Hid (cf ls (j:Int) no=4):=by show _=_;rw [go.out,c4,c5,c6];rfl
  have dE:Hid (bM ls (j:Int) no=ls):=by show _=_;unfold bM;rw [hb,ez.out];rfl
  go_wp2_with (first
   | (go_at_call 27;refine (bq _ _ _ _).mono ?_;rintro e w' ⟨rfl,hw'⟩;have hw2:=hw'.symm;subst hw2)
   | (go_at_call 84;refine (WA.out _ K2).mono ?_;rintro e w3 ⟨rfl,k3⟩;have kk:aa w w3:=K2.trans k3)
   | (go_at_call 181;refine (CO.out _ _ kk).mono ?_;rintro e w4 ⟨v4,rfl,O4,k4⟩;have np:aa w w4:=kk.trans k4;have k24:aa w2 w4:=k3.trans k4;obtain ⟨a4,mf,e4,N4,l4,um⟩:=aS.ns O4;subst e4)
   | (go_at_call 147;refine (nW a4 mf (hM ls l.owner) no _ (Nat.le_trans l4 um) N4).mono ?_;rintro e w5 ⟨rfl,k5⟩;rw [c6];have rN:aa w w5:=np.trans k5;have k25:aa w2 w5:=k24.trans k5))
  go_ret2
  exact ⟨_,vs,by rw [ez.out];rfl,by rw [dE.out];exact M.out.keeps k25 |>.widen (Nat.le_refl _) k25.size,rN⟩
 ·have ez:Hid (cf ls (j:Int) no=1):=by show _=_;rw [go.out,c4,c5,c6];rfl
  have dE:Hid (bM ls (j:Int) no=ls.set j { l with waits:=l.waits++[no] }):=by show _=_;unfold bM;rw [hb,ez.out,Int.toNat_natCast,pO Hl.out (ri no)];rfl
  go_wp2_with (first
   | (go_at_call 27;refine (bq _ _ _ _).mono ?_;rintro e w' ⟨rfl,hw'⟩;have hw2:=hw'.symm;subst hw2)
   | (go_at_call 84;refine (WA.out _ K2).mono ?_;rintro e w3 ⟨rfl,k3⟩;have kk:aa w w3:=K2.trans k3)
   | (go_at_call 181;refine (CO.out _ _ kk).mono ?_;rintro e w4 ⟨v4,rfl,O4,k4⟩;have np:aa w w4:=kk.trans k4;have k24:aa w2 w4:=k3.trans k4;obtain ⟨a4,mf,e4,N4,l4,um⟩:=aS.ns O4;subst e4)
   | (go_at_call 147;refine (nW a4 mf (hM ls l.owner) no _ (Nat.le_trans l4 um) N4).mono ?_;rintro e w5 ⟨rfl,k5⟩;rw [c6];have rN:aa w w5:=np.trans k5;have k25:aa w2 w5:=k24.trans k5)
   | (at_builtin;(refine qc5 rfl _ _ 27 rfl w.heap.size 3 (.int .i64 0) 1 8 ic Tryz.underlying27 (by kernel_rfl) rfl (by decide) fq kV _ l.waits rfl (OX.out _ (k25.alloc _)) (by have:=rN.size;simp;omega) no _ 1 (aq.new _ _ _) rfl ?c1 ?c2 ?_)))
  case c1=>have:=hw1.out;unfold maxLen;omega
  case c2=>have:=hw1.out;omega
  intro v6 w6 o6 g6 f6
  obtain ⟨a6,c7,e6,-,-,-⟩:=aS.ns o6
  obtain ⟨m6,jg⟩:∃ m,Hid ((l.waits++[no]).length=m):=⟨_,rfl⟩
  rw [jg.out] at e6
  subst e6
  have O6:Hid (aS w6 w.heap.size (.slice a6 m6 c7) (l.waits++[no])):=o6
  have zf:Hid (b3 < w5.heap.size):=Nat.lt_of_lt_of_le bl.out k25.size
  have key:Hid (∀ q,q < w5.heap.size->(Value.slice xa xn xc).ownBlock≠some q->w6.heap[q]?=w5.heap[q]?):=fun q hq hne=>(g6.block q (by simp;omega) (fun e=>hne e.symm)).trans (Below.block ((aa.refl w5).alloc _) q hq)
  have lS:w6.heap[b3]?=w5.heap[b3]?:=key.out b3 zf.out (fun e=>(Xb.out b3 e).2 rfl)
  have s3:w6.cell? ⟨b3,j*2+1,none⟩=some (.slice xa xn xc):=(World.cell?_of_block (w:=w5) lS).trans (s1 _ k25)
  have s4:∀ o,w6.frozen? ⟨b3,o,none⟩=false:=fun o=>(World.frozen?_of_block (w:=w5) lS).trans (s2 _ k25 o)
  have zg:Hid (w5.heap.size+1 <= w6.heap.size):=by have:=g6.size;simp at this;exact this
  have kg:Hid (∀ q,(Value.slice a6 m6 c7).ownBlock=some q->(Value.slice xa xn xc).ownBlock=some q∨q=w5.heap.size+1):=fun q hq=>by have:=f6 q hq;simpa using this
  have Ic:Hid (aa w w6):=aa.grown (rN.alloc _) g6 (fun q hq=>((OX.out _ k25).cr q hq).1)
  clear o6 g6 f6 s0 s1 s2
  go_wp2
  go_ret2
  refine ⟨_,vs.set j ⟨xo,a6,m6,c7⟩,by rw [ez.out];rfl,?_,Ic.out.setCell (p:=⟨b3,j*2+1,none⟩) nk.out _⟩
  rw [dE.out]
  have m5:Mine w5 w.heap.size w5.heap.size (.slice (some ⟨b3,0,none⟩) n hO) vs ls:=(M.out.keeps k25).widen (Nat.le_refl _) k25.size
  have sL:Own 37 2 fF w6 w.heap.size (.slice (some ⟨b3,0,none⟩) n hO) vs:=m5.own.same fun q hq=>by
   have:q=b3:=by simp [Value.ownBlock] at hq;exact hq.symm
   rw [this];exact lS
  refine m5.swap (x:=⟨xo,xa,xn,xc⟩) (y:=⟨xo,a6,m6,c7⟩) Hx.out (sL.setAt gz (i:=j) (j:=1) (x:=⟨xo,xa,xn,xc⟩) (y:=⟨xo,a6,m6,c7⟩) (u := .slice a6 m6 c7) Hx.out (by omega) rfl) (fun q h1 h2 h3 => ?_) Xo.out ?_ (by have:=zg.out;simp;omega) (fun q hq => ?_)
  ·have:q≠b3:=fun e=>h1 (by rw [e];rfl)
   rw [gA this]
   exact key.out q h3 h2
  ·refine Own.same O6.out fun q hq=>gA ?_
   rcases kg.out q hq with h | h
   ·exact (Xb.out q h).2
   ·have:=zf.out;omega
  ·rcases kg.out q hq with h | h
   ·exact .inr h
   ·have:=zg.out
    have:=O6.out.cr q hq
    exact .inl ⟨by omega,by simp;omega⟩
def qi (x:Int):Int :=
 if x = -4 then 24 else if x = -3 then 16 else if x = -2 then 12 else if x = -1 then 8 else if x=0 then 6 else if x=1 then 4 else if x=2 then 3 else if x=3 then 2 else if x=4 then 1 else 0
def jl (x:Int):Int :=
 if x = -4 then 2 else if x = -3 then 3 else if x = -2 then 4 else if x = -1 then 6 else if x=0 then 8 else if x=1 then 12 else if x=2 then 16 else if x=3 then 24 else if x=4 then 48 else 0
theorem nine {x:Int} (h1 : -4 <= x) (h2:x <= 4):x = -4∨x = -3∨x = -2∨x = -1∨x=0∨x=1∨x=2∨x=3∨x=4:=by omega
theorem Ie {x:Int} (h:aH x (-4) 4=false):qi x=0:=by
 have hh:¬ (-4 <= x /\ x <= 4):=fun h'=>by rw [dq.2 h'] at h;cases h
 unfold qi
 repeat rw [if_neg (by omega)]
theorem Ig {x:Int} (h:aH x (-4) 4=false):jl x=0:=by
 have hh:¬ (-4 <= x /\ x <= 4):=fun h'=>by rw [dq.2 h'] at h;cases h
 unfold jl
 repeat rw [if_neg (by omega)]
set_option maxHeartbeats 1000000 in
theorem Ih (x:Int) (w:World) :
  Calls Tryz.prog 225 #[.int .i64 x] w fun e w'=>e = .returned (.int .i64 (qi x)) /\ aa w w':=by
 cases h:aH x (-4) 4
 ·have Hr:Hid (qi x=0):=Ie h
  go_enter Tryz.func225,Tryz.ntmps225
  go_wp2_with (go_at_call 88;refine (iq _ _).mono ?_;rintro e w' ⟨rfl,rfl⟩)
  go_ret
  exact ⟨by rw [Hr.out];rfl,aa.refl _⟩
 ·obtain ⟨h1,h2⟩:=dq.1 h
  rcases nine h1 h2 with rfl | rfl | rfl | rfl | rfl | rfl | rfl | rfl | rfl <;>
  ·clear h h1 h2
   go_enter Tryz.func225,Tryz.ntmps225
   go_wp2_with (go_at_call 88;refine (iq _ _).mono ?_;rintro e w' ⟨rfl,rfl⟩)
   go_ret
   exact ⟨rfl,(aa.refl _).alloc _⟩
set_option maxHeartbeats 1000000 in
theorem xl (x:Int) (w:World) :
  Calls Tryz.prog 217 #[.int .i64 x] w fun e w'=>e = .returned (.int .i64 (jl x)) /\ aa w w':=by
 cases h:aH x (-4) 4
 ·have Hr:Hid (jl x=0):=Ig h
  go_enter Tryz.func217,Tryz.ntmps217
  go_wp2_with (go_at_call 88;refine (iq _ _).mono ?_;rintro e w' ⟨rfl,rfl⟩)
  go_ret
  exact ⟨by rw [Hr.out];rfl,aa.refl _⟩
 ·obtain ⟨h1,h2⟩:=dq.1 h
  rcases nine h1 h2 with rfl | rfl | rfl | rfl | rfl | rfl | rfl | rfl | rfl <;>
  ·clear h h1 h2
   go_enter Tryz.func217,Tryz.ntmps217
   go_wp2_with (first
    | (go_at_call 88;refine (iq _ _).mono ?_;rintro e w' ⟨rfl,rfl⟩)
    | (go_at_call 225;refine (Ih _ _).mono ?_;rintro e w' ⟨rfl,k⟩))
   go_ret
   exact ⟨congrArg (fun z=>Ending.returned (Value.int .i64 z)) (show wrap64 (Int.tdiv 48 (qi _))=jl _ by kernel_rfl),k⟩
structure Room (w:World) (b m:Nat):Prop where
 lt:b < w.heap.size
 cells:∀ o,o < m->∃ v,w.cell? ⟨b,o,none⟩=some v
 aO:∀ o,w.frozen? ⟨b,o,none⟩=false
theorem Room.setCell {w:World} {b m:Nat} (h:Room w b m) (p:Addr) (v:Value):Room (w.setCell p v) b m :=
 ⟨by simpa using h.lt,fun q hq=>by obtain ⟨u,hu⟩:=h.cells q hq;exact cell?_setCell_some hu,fun q=>by simpa using h.aO q⟩
theorem Room.put {w:World} {b m o:Nat} (h:Room w b m) (t:ar):Room (putAt w b o t) b m :=
 (((((((((((((h.setCell _ _).setCell _ _).setCell _ _).setCell _ _).setCell _ _).setCell _ _).setCell _ _).setCell _ _).setCell _ _).setCell _ _).setCell _ _).setCell _ _).setCell _ _).setCell _ _
theorem ab.put {g o:Nat} {a b:World} (h:ab g a b) (t:ar):ab g a (putAt b g o t) :=
 (((((((((((((h.setCell _ _).setCell _ _).setCell _ _).setCell _ _).setCell _ _).setCell _ _).setCell _ _).setCell _ _).setCell _ _).setCell _ _).setCell _ _).setCell _ _).setCell _ _).setCell _ _
end
def dO:List Lk->List Int
 | []=>[]
 | l::r=>l.waits++dO r
theorem Ea (xs ys:List Lk):dO (xs++ys)=dO xs++dO ys:=by
 induction xs with
 | nil=>rfl
 | cons l r ih=>simp [dO,ih]
theorem oe {ls:List Lk} {x:Int}:x∈dO ls↔∃ (j:Nat) (l:Lk),ls[j]?=some l /\ hasB l.waits x=true:=by
 induction ls with
 | nil=>simp [dO]
 | cons l r ih =>
  simp only [dO,List.mem_append,ih]
  constructor
  ·rintro (h | ⟨j,m,h1,h2⟩)
   ·exact ⟨0,l,rfl,j8.2 h⟩
   ·exact ⟨j+1,m,h1,h2⟩
  ·rintro ⟨j,m,h1,h2⟩
   cases j with
   | zero=>simp at h1;subst h1;exact .inl (j8.1 h2)
   | succ j=>exact .inr ⟨j,m,by simpa using h1,h2⟩
theorem wY {ls:List Lk} {x:Int}:da ls x=none↔x ∉ dO ls:=by
 rw [oe]
 constructor
 ·rintro h ⟨j,l,h1,h2⟩
  rw [qj h j l h1] at h2;cases h2
 ·intro h
  refine rO fun j m hm => ?_
  cases hb:hasB m.waits x
  ·rfl
  ·exact absurd ⟨j,m,hm,hb⟩ h
theorem tw (ls:List Lk) (x:Int):dR ls x=eA (dO ls) x:=by
 induction ls with
 | nil=>rfl
 | cons l r ih=>simp only [dR,dO,uo,ih]
theorem tv:∀ {xs:List Int},xs.Nodup↔∀ x∈xs,eA xs x=1
 | []=>by simp
 | y::r=>by
  rw [List.nodup_cons,tv (xs:=r)]
  have e:∀ x,eA (y::r) x=(if y==x then 1 else 0)+eA r x:=by
   intro x
   have:=uo [y] r x
   simp only [List.singleton_append] at this
   rw [this]
   congr 1
   cases c:(y==x) <;> simp [eA,c]
  constructor
  ·rintro ⟨h1,h2⟩ x hx
   rw [e]
   rcases List.mem_cons.1 hx with rfl | hx
   ·have:=uq.2 (ur.2 h1);simp;omega
   ·have hne:y≠x:=fun e'=>h1 (e' ▸ hx)
    have:=h2 x hx
    rw [if_neg (by simpa using hne)];omega
  ·intro h
   have hy:y ∉ r:=fun hm=>by
    have h1:=h y (List.mem_cons_self ..)
    rw [e] at h1
    have:=uu.2 (j8.2 hm)
    simp at h1;omega
   refine ⟨hy,fun x hx => ?_⟩
   have h1:=h x (List.mem_cons_of_mem _ hx)
   have hne:y≠x:=fun e'=>hy (e' ▸ hx)
   rw [e,if_neg (by simpa using hne)] at h1
   omega
theorem Ii (ls:List Lk):bD ls=(dO ls).length:=by
 induction ls with
 | nil=>rfl
 | cons l r ih=>simp [bD,dO,ih]
theorem Ij {xs:List Int} {n:Nat} (h:xs.Nodup) (hb:∀ x∈xs,1 <= x /\ x <= (n:Int)):xs.length <= n:=by
 refine rP n xs.length (fun i=>((xs.getD i 0) - 1).toNat) (fun i hi => ?_) (fun i j hi hj e => ?_)
 ·have:=hb _ (List.getElem_mem hi)
  rw [List.getD_eq_getElem?_getD,List.getElem?_eq_getElem hi,Option.getD_some]
  omega
 ·have h1:=hb _ (List.getElem_mem hi)
  have h2:=hb _ (List.getElem_mem hj)
  simp only [List.getD_eq_getElem?_getD,List.getElem?_eq_getElem hi,List.getElem?_eq_getElem hj,Option.getD_some] at e
  exact (List.getElem_inj h).1 (by omega)
theorem Right.few {ls:List Lk} (R:Right ls):bD ls <= 1000:=by
 rw [Ii]
 refine Ij (n:=1000) (tv.2 fun x hx => ?_) fun x hx => ?_
 ·obtain ⟨j,l,hl,h⟩:=oe.1 hx
  rw [<- tw];exact R.once j l x hl h
 ·obtain ⟨j,l,hl,h⟩:=oe.1 hx
  exact R.no j l x hl h
section
attribute [local go_sem] aa.refl aa.alloc aa.drew aa.drewN
set_option maxHeartbeats 8000000 in
theorem CS (a:Option Addr) (cap:Nat) (ls:List Lk) (i no next:Int) (w:World) (hl:bR ls <= 2097152) (hs:dL true w a ls) :
  Calls Tryz.prog 151 #[.slice a ls.length cap,.int .i64 i,.int .i64 no,.int .i64 next] w fun e w'=>∃ v vs,e = .returned (.tuple #[v,.bool (gX ls i no next)]) /\ Mine w' w.heap.size w'.heap.size v vs (fy ls i no next) /\ aa w w':=by
 have HL:Hid (bR ls <= 2097152):=hl
 have hl0:ls.length <= 2097152:=by unfold bR at hl;omega
 clear hl
 have HS:Hid (dL true w a ls):=hs
 clear hs
 have LO:Hid (∀ w',aa w w'->Calls Tryz.prog 70 #[.slice a ls.length cap] w' fun e w''=>e = .returned (.bool (du ls)) /\ aa w' w''):=fun w' h=>rL a cap ls w' HL.out (HS.out.keeps h)
 have CP:Hid (∀ w',aa w w'->Calls Tryz.prog 90 #[.slice a ls.length cap] w' fun e w''=>∃ v vs,e = .returned v /\ Mine w'' w'.heap.size w''.heap.size v vs ls /\ aa w' w''):=fun w' h=>uk a cap ls w' HL.out (HS.out.keeps h)
 generalize hn:ls.length=n at hl0
 have Hn:Hid (ls.length=n):=hn
 rw [hn] at LO CP
 clear hn
 cases hb:du ls
 ·have Hr:Hid (gX ls i no next=false):=by show _=_;unfold gX;rw [hb];rfl
  have Hq:Hid (fy ls i no next=[]):=by show _=_;unfold fy;rw [hb];rfl
  rw [hb] at LO
  go_enter Tryz.func151,Tryz.ntmps151
  go_wp2_with (go_at_call 70;refine (LO.out _ (aa.refl _)).mono ?_;rintro e w1 ⟨rfl,k1⟩)
  go_ret2
  refine ⟨_,[],by rw [Hr.out];rfl,?_,k1.alloc _⟩
  rw [Hq.out]
  exact Mine.none _ _ _ _ (Own.new 37 2 fF w1 k1.size) (fun q hq=>by simp [Value.ownBlock] at hq;simp;omega)
 rw [hb] at LO
 go_enter Tryz.func151,Tryz.ntmps151
 go_wp2_with (first
  | (go_at_call 70;refine (LO.out _ (aa.refl _)).mono ?_;rintro e w1 ⟨rfl,k1⟩)
  | fail)
 refine (CP.out _ k1).mono ?_
 rintro e w2 ⟨v,vs,rfl,M0,k2⟩
 have M:Hid (Mine w2 w.heap.size w2.heap.size v vs ls):=M0.widen k1.size (Nat.le_refl _)
 have K2:aa w w2:=k1.trans k2
 clear M0 k1 k2 LO CP
 have l8:IntKind.i64.wrap ((n:Int) - 1)=(n:Int) - 1:=Go.IntWalk.i64_in _ (by omega)
 have kL:Hid (∀ (_:(aH i 0 ((n:Int) - 1)&&(!(no==0)&&(dY ls i.toNat==no&&qk (lD ls i.toNat) next)))=false),gX ls i no next=false /\ fy ls i no next=ls):=by
  intro h
  have e1:gX ls i no next=false:=by unfold gX;rw [hb,Hn.out,h];rfl
  refine ⟨e1,?_⟩
  unfold fy
  rw [hb,e1];rfl
 cases c1:aH i 0 ((n:Int) - 1)
 ·have Hr:=kL.out (by rw [c1];rfl)
  have ez:Hid (gX ls i no next=false):=Hr.1
  have dE:Hid (fy ls i no next=ls):=Hr.2
  clear Hr
  go_wp2_with (go_at_call 27;refine (bq _ _ _ _).mono ?_;rintro e w' ⟨rfl,hw'⟩;have hw2:=hw'.symm;subst hw2)
  go_ret2
  exact ⟨_,vs,by rw [ez.out];rfl,by rw [dE.out];exact M.out,K2⟩
 cases c2:(no==0)
 rotate_left
 ·have Hr:=kL.out (by rw [c2];simp)
  have ez:Hid (gX ls i no next=false):=Hr.1
  have dE:Hid (fy ls i no next=ls):=Hr.2
  clear Hr
  go_wp2_with (go_at_call 27;refine (bq _ _ _ _).mono ?_;rintro e w' ⟨rfl,hw'⟩;have hw2:=hw'.symm;subst hw2)
  go_ret2
  exact ⟨_,vs,by rw [ez.out];rfl,by rw [dE.out];exact M.out,K2⟩
 obtain ⟨h0,h1⟩:=dq.1 c1
 obtain ⟨j,rfl⟩:∃ j:Nat,i=(j:Int):=⟨i.toNat,by omega⟩
 have hj:j < n:=by omega
 have hj':(j:Int) < (n:Int):=by omega
 obtain ⟨l,hl1⟩:=cd (xs:=ls) (k:=j) (by rw [Hn.out];exact hj)
 obtain ⟨b,off,a',cap',rfl,r0,r1,hle,hns⟩:=HS.out.at hl1
 have Hl:Hid (ls[j]?=some l):=hl1
 have N1:Hid (Ns w a' l.waits):=hns
 have lF:Hid (l.waits.length <= maxLen):=hle
 have Ho:Hid (dY ls (j:Int).toNat=l.owner):=by show _=_;rw [Int.toNat_natCast];exact iP hl1
 have Hw:Hid (lD ls (j:Int).toNat=l.waits):=by show _=_;rw [Int.toNat_natCast];simp [lD,hl1]
 have hw1:Hid (l.waits.length <= 2097152):=by show _ <= _;have:=lh Hl.out;have:=HL.out;unfold bR at this;omega
 clear hl1 hns hle h0 h1
 have ng:(l.owner==no) = !(l.owner != no):=by simp [bne]
 cases c4:(l.owner != no)
 rotate_left
 ·have Hr:=kL.out (by rw [Ho.out,ng,c4];simp)
  have ez:Hid (gX ls (j:Int) no next=false):=Hr.1
  have dE:Hid (fy ls (j:Int) no next=ls):=Hr.2
  clear Hr
  go_wp2_with (go_at_call 27;refine (bq _ _ _ _).mono ?_;rintro e w' ⟨rfl,hw'⟩;have hw2:=hw'.symm;subst hw2)
  go_ret2
  exact ⟨_,vs,by rw [ez.out];rfl,by rw [dE.out];exact M.out,K2⟩
 have GO:Hid (gX ls (j:Int) no next=qk l.waits next):=by
  show _=_
  unfold gX
  rw [hb,Hn.out,c1,c2,Ho.out,ng,c4,Hw.out]
  rfl
 obtain ⟨m,Hm⟩:∃ m:Nat,Hid (l.waits.length=m):=⟨_,rfl⟩
 have hm1:m <= 2097152:=by rw [<- Hm.out];exact hw1.out
 rw [Hm.out] at r1
 have HA:Hid (∀ w',aa w w'->Calls Tryz.prog 147 #[.slice a' m cap',.int .i64 next] w' fun e w''=>e = .returned (.bool (hasB l.waits next)) /\ aa w' w''):=by
  intro w' h
  have:=nW a' cap' l.waits next w' lF.out (N1.out.keeps h)
  rwa [Hm.out] at this
 have LE:Hid (∀ w',aa w w'->Calls Tryz.prog 182 #[.slice a' m cap',.int .i64 next] w' fun e w''=>∃ v,e = .returned v /\ aS w'' w'.heap.size v (eG l.waits next) /\ aa w' w''):=by
  intro w' h
  have:=Ik a' cap' l.waits next w' hw1.out (N1.out.keeps h)
  rwa [Hm.out] at this
 have MN:Hid (qk l.waits next=if (m:Int)==0 then next==0 else hasB l.waits next):=by
  show _=_
  unfold qk
  rw [Hm.out]
  by_cases h:m=0
  ·subst h;rfl
  ·rw [if_neg (by simpa using h),if_neg (by simp;omega)]
 have kf:Hid (vs.length=n):=M.out.len.trans Hn.out
 obtain ⟨b3,hO,ev⟩:=M.out.own.blk (by rw [kf.out];omega)
 rw [kf.out] at ev
 subst ev
 obtain ⟨x,hx⟩:=cd (xs:=vs) (k:=j) (by rw [kf.out];exact hj)
 have Hx:Hid (vs[j]?=some x):=hx
 have O0:Own 37 2 fF w2 w.heap.size (.slice (some ⟨b3,0,none⟩) vs.length hO) vs:=by rw [kf.out];exact M.out.own
 have bl:Hid (b3 < w2.heap.size):=(O0.cr b3 rfl).2
 have nk:Hid (w.heap.size <= b3):=(O0.cr b3 rfl).1
 have s0:∀ w',aa w2 w'->w'.cell? ⟨b3,j*2,none⟩=some (.int .i64 x.o):=aa.has (O0.cellAt gz (k:=0) hx (by omega))
 have s1:∀ w',aa w2 w'->w'.cell? ⟨b3,j*2+1,none⟩=some x.row:=aa.has (O0.cellAt gz (k:=1) hx (by omega))
 have s2:∀ w',aa w2 w'->∀ o,w'.frozen? ⟨b3,o,none⟩=false:=fun w' h o=>(h.aO _ _ bl.out).trans (O0.frozenAt o)
 clear O0 hx ng
 obtain ⟨xo,xa,xn,xc⟩:=x
 dsimp only at s0 s1
 cases c3:((m:Int)==0)
 ·have m0:decide (0 < m)=true:=by simp at c3;simp;omega
  have m0':(0:Int) < (m:Int):=by simp at c3;omega
  cases c6:hasB l.waits next
  ·have Hr:=kL.out (by rw [Hw.out,MN.out,c3,c6];simp)
   have ez:Hid (gX ls (j:Int) no next=false):=Hr.1
   have dE:Hid (fy ls (j:Int) no next=ls):=Hr.2
   clear Hr
   go_wp2_with (first | (go_at_call 27;refine (bq _ _ _ _).mono ?_;rintro e w' ⟨rfl,hw'⟩;have hw2:=hw'.symm;subst hw2) | (go_at_call 147;refine (HA.out _ K2).mono ?_;rintro e w3 ⟨rfl,k3⟩;rw [c6];have kk:aa w w3:=K2.trans k3))
   go_ret2
   exact ⟨_,vs,by rw [ez.out];rfl,by rw [dE.out];exact M.out.keeps k3 |>.widen (Nat.le_refl _) k3.size,kk⟩
  ·have ez:Hid (gX ls (j:Int) no next=true):=by show _=_;rw [GO.out,MN.out,c3,c6];rfl
   have dE:Hid (fy ls (j:Int) no next=ls.set j ⟨next,eG l.waits next⟩):=by show _=_;unfold fy;rw [hb,ez.out,Int.toNat_natCast,pO Hl.out (qc1 next)];rfl
   go_wp2_with (first
    | (go_at_call 27;refine (bq _ _ _ _).mono ?_;rintro e w' ⟨rfl,hw'⟩;have hw2:=hw'.symm;subst hw2)
    | (go_at_call 147;refine (HA.out _ K2).mono ?_;rintro e w3 ⟨rfl,k3⟩;rw [c6];have kk:aa w w3:=K2.trans k3)
    | (go_at_call 182;refine (LE.out _ kk).mono ?_;rintro e w4 ⟨v4,rfl,O4,k4⟩;have np:aa w w4:=kk.trans k4;have k24:aa w2 w4:=k3.trans k4;obtain ⟨a4,c8,e4,-,-,-⟩:=aS.ns O4;obtain ⟨m4,uv⟩:∃ m,Hid ((eG l.waits next).length=m):=⟨_,rfl⟩;rw [uv.out] at e4;subst e4;have OH:Hid (aS w4 w3.heap.size (.slice a4 m4 c8) (eG l.waits next)):=O4;clear O4))
   go_ret2
   refine ⟨_,vs.set j ⟨next,a4,m4,c8⟩,by rw [ez.out];rfl,?_,(np.setCell (p:=⟨b3,j*2,none⟩) nk.out _).setCell (p:=⟨b3,j*2+1,none⟩) nk.out _⟩
   rw [dE.out]
   have ql:Mine w4 w.heap.size w3.heap.size (.slice (some ⟨b3,0,none⟩) n hO) vs ls:=(M.out.keeps k24).widen (Nat.le_refl _) k3.size
   have hb4:∀ q,(Value.slice a4 m4 c8).ownBlock=some q->w3.heap.size <= q /\ q < w4.heap.size:=fun q hq=>OH.out.cr q hq
   have ks:∀ q,(Value.slice a4 m4 c8).ownBlock=some q->q≠b3:=fun q hq=>by have:=(hb4 q hq).1;have:=bl.out;have:=k3.size;omega
   refine ql.swap (x:=⟨xo,xa,xn,xc⟩) (y:=⟨next,a4,m4,c8⟩) Hx.out (ql.own.iI Hx.out ⟨next,a4,m4,c8⟩) (fun q h1 h2 h3 => ?_) rfl ?_ (by have:=k24.size;have:=k3.size;have:=k4.size;simp;omega) (fun q hq => .inl ⟨(hb4 q hq).1,by have:=(hb4 q hq).2;simp;omega⟩)
   ·have:q≠b3:=fun e=>h1 (by rw [e];rfl)
    rw [gA this,gA this]
   ·refine Own.same (Own.base OH.out kk.size) fun q hq => ?_
    rw [gA (ks q hq),gA (ks q hq)]
 ·have m0:decide (0 < m)=false:=by simp at c3;simp;omega
  have zh:(next==0) = !(next != 0):=by simp [bne]
  cases c6:(next != 0)
  rotate_left
  ·have Hr:=kL.out (by rw [Hw.out,MN.out,c3,zh,c6];simp)
   have ez:Hid (gX ls (j:Int) no next=false):=Hr.1
   have dE:Hid (fy ls (j:Int) no next=ls):=Hr.2
   clear Hr
   go_wp2_with (go_at_call 27;refine (bq _ _ _ _).mono ?_;rintro e w' ⟨rfl,hw'⟩;have hw2:=hw'.symm;subst hw2)
   go_ret2
   exact ⟨_,vs,by rw [ez.out];rfl,by rw [dE.out];exact M.out,K2⟩
  ·have ez:Hid (gX ls (j:Int) no next=true):=by show _=_;rw [GO.out,MN.out,c3,zh,c6];rfl
   have dE:Hid (fy ls (j:Int) no next=ls.set j ⟨next,eG l.waits next⟩):=by show _=_;unfold fy;rw [hb,ez.out,Int.toNat_natCast,pO Hl.out (qc1 next)];rfl
   go_wp2_with (first
    | (go_at_call 27;refine (bq _ _ _ _).mono ?_;rintro e w' ⟨rfl,hw'⟩;have hw2:=hw'.symm;subst hw2)
    | (go_at_call 182;refine (LE.out _ K2).mono ?_;rintro e w4 ⟨v4,rfl,O4,k4⟩;have np:aa w w4:=K2.trans k4;have k24:aa w2 w4:=k4;obtain ⟨a4,c8,e4,-,-,-⟩:=aS.ns O4;obtain ⟨m4,uv⟩:∃ m,Hid ((eG l.waits next).length=m):=⟨_,rfl⟩;rw [uv.out] at e4;subst e4;have OH:Hid (aS w4 w2.heap.size (.slice a4 m4 c8) (eG l.waits next)):=O4;clear O4))
   go_ret2
   refine ⟨_,vs.set j ⟨next,a4,m4,c8⟩,by rw [ez.out];rfl,?_,(np.setCell (p:=⟨b3,j*2,none⟩) nk.out _).setCell (p:=⟨b3,j*2+1,none⟩) nk.out _⟩
   rw [dE.out]
   have ql:Mine w4 w.heap.size w2.heap.size (.slice (some ⟨b3,0,none⟩) n hO) vs ls:=(M.out.keeps k24).widen (Nat.le_refl _) (Nat.le_refl _)
   have hb4:∀ q,(Value.slice a4 m4 c8).ownBlock=some q->w2.heap.size <= q /\ q < w4.heap.size:=fun q hq=>OH.out.cr q hq
   have ks:∀ q,(Value.slice a4 m4 c8).ownBlock=some q->q≠b3:=fun q hq=>by have:=(hb4 q hq).1;have:=bl.out;omega
   refine ql.swap (x:=⟨xo,xa,xn,xc⟩) (y:=⟨next,a4,m4,c8⟩) Hx.out (ql.own.iI Hx.out ⟨next,a4,m4,c8⟩) (fun q h1 h2 h3 => ?_) rfl ?_ (by have:=k24.size;simp;omega) (fun q hq => .inl ⟨(hb4 q hq).1,by have:=(hb4 q hq).2;simp;omega⟩)
   ·have:q≠b3:=fun e=>h1 (by rw [e];rfl)
    rw [gA this,gA this]
   ·refine Own.same (Own.base OH.out K2.size) fun q hq => ?_
    rw [gA (ks q hq),gA (ks q hq)]
end
def gf (t:ar):Bool:=bN t&&t.cls==3
def iG (a b:ar):Bool:=gf a&&gf b&&(decide (a.v < b.v)||a.v==b.v&&decide (a.no < b.no))
def j7 (t:ar) (x:Int):ar:=if aH x 0 100000000 then { t with v:=x } else t
def lX (t:ar):ar:=if gf t then j7 t (t.v+jl t.nice) else t
def lW (t:ar) (floor:Int):ar:=if gf t then j7 t (max t.v floor) else t
def mX (t:ar) (cpu eI dst:Int):Bool:=gf t&&aH cpu 0 3&&aH eI 0 100000000&&aH dst 0 100000000 && !decide (100000000 < dst+max (t.v - eI) 0)
def iy (t:ar) (cpu eI dst:Int):ar:=if mX t cpu eI dst then { t with cpu:=cpu,v:=dst+max (t.v - eI) 0 } else t
def gP (least:Int) (t:ar):Int:=if gf t&&(decide (least < 0)||decide (t.v < least)) then t.v else least
def zi (ts:List ar):Int:=ts.foldl gP (-1)
def lV (ts:List ar) (floor:Int):Int:=if zi ts < 0 then floor else max floor (zi ts)
structure nq (t:ar):Prop where
 cls:t.cls=3
 no:1 <= t.no /\ t.no <= 1000
 cpu:0 <= t.cpu /\ t.cpu <= 3
 st:1 <= t.st /\ t.st <= 2
 nice : -4 <= t.nice /\ t.nice <= 4
 v:0 <= t.v /\ t.v <= 100000000
 none:t.q=0 /\ t.p=0 /\ t.left=0 /\ t.due=0 /\ t.prio=0 /\ t.round=0 /\ t.seq=0
theorem xk (t:ar):gf t=true↔nq t:=by
 constructor
 ·intro h
  simp only [gf,Bool.and_eq_true,beq_iff_eq] at h
  obtain ⟨h1,h2⟩:=h
  simp [bN,gD,fX,h2,dP,dW,dq] at h1
  obtain ⟨⟨⟨⟨hno,fv⟩,hst⟩,hz⟩,hn,hv⟩:=h1
  exact ⟨h2,by omega,by omega,by omega,by omega,by omega,by omega,by omega,by omega,by omega,by omega,by omega,by omega⟩
 ·rintro ⟨h2,hno,fv,hst,hn,hv,h0,h1,h3,h4,h5,h6,h7⟩
  simp [gf,bN,gD,fX,h2,dP,dW,dq,h0,h1,h3,h4,h5,h6,h7]
  omega
theorem Eh (x:Int):0 <= jl x /\ jl x <= 48:=by
 unfold jl
 repeat' split
 all_goals omega
end Go.Proofs.YteagpjlgjfaclaaGreatDoor
