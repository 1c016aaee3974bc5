/-
  Locks: the contract of the model's asking for one.
  Rows of locks are marked, and looked at again.
  Deadlines, as plain functions: what a task that wakes, is r
  Lists of tasks are marked, and looked at again: the laws' o
  Locks: all that wait; right locks are few numbers.
  Locks: the contract of the model's freeing one.
  Deadlines: contracts of the model's functions.
-/
import Derived.Test.YteagpjlgjfaclaaGreatDoorLockCopy
import Derived.Test.YteagpjlgjfaclaaGreatDoorFar
import Derived.Test.YteagpjlgjfaclaaGreatDoorTaskSpec
import Derived.Test.YteagpjlgjfaclaaGreatDoorTaskList
import Derived.Test.YteagpjlgjfaclaaGreatDoorFrame
namespace Go.Proofs.YteagpjlgjfaclaaGreatDoor
set_option maxRecDepth 100000
open Go.RowKit
attribute [local go_sem] Keeps.refl Keeps.alloc Keeps.drew Keeps.drewN
theorem qd5 {ls:List Lk} {i:Nat} {l:Lk} (h:ls[i]?=some l) (f:Lk->Lk):ls.modify i f=ls.set i (f l):=by
 apply List.ext_getElem?
 intro j
 by_cases e:i=j
 ·subst e
  rw [List.getElem?_modify,List.getElem?_set_self (qaw h),h]
  simp
 ·rw [List.getElem?_modify,List.getElem?_set_ne e]
  simp [e]
theorem qk4 {ls:List Lk} {no:Int} (h:decide (0 <= qaJ ls no)=false):qaJ ls no = -1:=by
 unfold qaJ at h ⊢
 split
 ·rename_i i hi;rw [hi] at h;simp at h
 ·rfl
set_option maxHeartbeats 8000000 in
theorem qgK (a:Option Addr) (cap:Nat) (ls:List Lk) (i no:Int) (w:World) (hl:qaj ls <= 2097152) (hs:Lks true w a ls) :
  Calls Tryz.prog 150 #[.slice a ls.length cap,.int .i64 i,.int .i64 no] w fun e w'=>∃ v vs,e = .returned (.tuple #[v,.int .i64 (askN ls i no)]) /\ Mine w' w.heap.size w'.heap.size v vs (askL ls i no) /\ Keeps w w':=by
 have HL:Hid (qaj ls <= 2097152):=hl
 have hl0:ls.length <= 2097152:=by unfold qaj at hl;omega
 clear hl
 have HS:Hid (Lks true w a ls):=hs
 clear hs
 have HLm:Hid (ls.length <= maxLen):=by show _ <= _;unfold maxLen;omega
 have LO:Hid (∀ w',Keeps w w'->Calls Tryz.prog 70 #[.slice a ls.length cap] w' fun e w''=>e = .returned (.bool (qax ls)) /\ Keeps w' w''):=fun w' h=>qeH a cap ls w' HL.out (HS.out.keeps h)
 have CP:Hid (∀ w',Keeps w w'->Calls Tryz.prog 90 #[.slice a ls.length cap] w' fun e w''=>∃ v vs,e = .returned v /\ Mine w'' w'.heap.size w''.heap.size v vs ls /\ Keeps w' w''):=fun w' h=>qfh a cap ls w' HL.out (HS.out.keeps h)
 have WA:Hid (∀ w',Keeps w w'->Calls Tryz.prog 84 #[.slice a ls.length cap,.int .i64 no] w' fun e w''=>e = .returned (.int .i64 (qaJ ls no)) /\ Keeps w' w''):=fun w' h=>qeF a cap ls no w' HLm.out (HS.out.keeps h)
 have CO:Hid (∀ x w',Keeps w w'->Calls Tryz.prog 181 #[.slice a ls.length cap,.int .i64 x] w' fun e w''=>∃ v,e = .returned v /\ OwnN w'' w'.heap.size v (qbu ls x) /\ Keeps w' w''):=fun x w' h=>qlv a cap ls x w' HL.out (HS.out.keeps h)
 generalize hn:ls.length=n at hl0
 have Hn:Hid (ls.length=n):=hn
 rw [hn] at LO CP WA CO
 clear hn
 cases hb:qax ls
 ·have Hr:Hid (askN ls i no=2):=by show _=_;unfold askN;rw [hb];rfl
  have Hq:Hid (askL ls i no=[]):=by show _=_;unfold askL;rw [hb];rfl
  rw [hb] at LO
  go_enter Tryz.func150,Tryz.ntmps150
  go_wp2_with (go_at_call 70;refine (LO.out _ (Keeps.refl _)).mono ?_;rintro e w1 ⟨rfl,k1⟩)
  go_ret2
  refine ⟨_,[],by rw [Hr.out];rfl,?_,k1.alloc _⟩
  rw [Hq.out]
  exact Mine.none _ _ _ _ (Own.new 37 2 lvc w1 k1.size) (fun q hq=>by simp [Value.ownBlock] at hq;simp;omega)
 rw [hb] at LO
 go_enter Tryz.func150,Tryz.ntmps150
 go_wp2_with (first
  | (go_at_call 70;refine (LO.out _ (Keeps.refl _)).mono ?_;rintro e w1 ⟨rfl,k1⟩)
  | fail)
 refine (CP.out _ k1).mono ?_
 rintro e w2 ⟨v,vs,rfl,M0,k2⟩
 have M:Hid (Mine w2 w.heap.size w2.heap.size v vs ls):=M0.widen k1.size (Nat.le_refl _)
 have K2:Keeps w w2:=k1.trans k2
 clear M0 k1 k2 LO CP
 have ewrap:IntKind.i64.wrap ((n:Int) - 1)=(n:Int) - 1:=Go.IntWalk.i64_in _ (by omega)
 have bad:∀ (h:(!inB i 0 ((n:Int) - 1)||(!inB no 1 1000||decide (0 <= qaJ ls no)))=true),askN ls i no=2 /\ askL ls i no=ls:=by
  intro h
  have e1:askN ls i no=2:=by unfold askN;rw [hb,Hn.out,h];rfl
  refine ⟨e1,?_⟩
  unfold askL
  rw [hb,e1];rfl
 have BAD:Hid (∀ (_:(!inB i 0 ((n:Int) - 1)||(!inB no 1 1000||decide (0 <= qaJ ls no)))=true),askN ls i no=2 /\ askL ls i no=ls):=bad
 clear bad
 cases c1:inB i 0 ((n:Int) - 1)
 ·have Hr:=BAD.out (by rw [c1];rfl)
  have Hr1:Hid (askN ls i no=2):=Hr.1
  have Hr2:Hid (askL ls i no=ls):=Hr.2
  clear Hr
  go_wp2_with (go_at_call 27;refine (qag _ _ _ _).mono ?_;rintro e w' ⟨rfl,hw'⟩;have hw2:=hw'.symm;subst hw2)
  go_ret2
  exact ⟨_,vs,by rw [Hr1.out];rfl,by rw [Hr2.out];exact M.out,K2⟩
 cases c2:inB no 1 1000
 ·have Hr:=BAD.out (by rw [c2];simp)
  have Hr1:Hid (askN ls i no=2):=Hr.1
  have Hr2:Hid (askL ls i no=ls):=Hr.2
  clear Hr
  go_wp2_with (go_at_call 27;refine (qag _ _ _ _).mono ?_;rintro e w' ⟨rfl,hw'⟩;have hw2:=hw'.symm;subst hw2)
  go_ret2
  exact ⟨_,vs,by rw [Hr1.out];rfl,by rw [Hr2.out];exact M.out,K2⟩
 cases c3:decide (0 <= qaJ ls no)
 rotate_left
 ·have Hr:=BAD.out (by rw [c3];simp)
  have Hr1:Hid (askN ls i no=2):=Hr.1
  have Hr2:Hid (askL ls i no=ls):=Hr.2
  clear Hr
  go_wp2_with (first
   | (go_at_call 27;refine (qag _ _ _ _).mono ?_;rintro e w' ⟨rfl,hw'⟩;have hw2:=hw'.symm;subst hw2)
   | (go_at_call 84;refine (WA.out _ K2).mono ?_;rintro e w3 ⟨rfl,k3⟩))
  go_ret2
  exact ⟨_,vs,by rw [Hr1.out];rfl,by rw [Hr2.out];exact M.out.keeps k3 |>.widen (Nat.le_refl _) k3.size,K2.trans k3⟩
 have Hwa:Hid (qaJ ls no = -1):=qk4 c3
 rw [Hwa.out] at WA
 obtain ⟨h0,h1⟩:=qas.1 c1
 obtain ⟨j,rfl⟩:∃ j:Nat,i=(j:Int):=⟨i.toNat,by omega⟩
 have hj:j < n:=by omega
 have hj':(j:Int) < (n:Int):=by omega
 obtain ⟨l,hl1⟩:=qal (xs:=ls) (k:=j) (by rw [Hn.out];exact hj)
 obtain ⟨b,off,a',cap',rfl,r0,r1,-,-⟩:=HS.out.at hl1
 have Hl:Hid (ls[j]?=some l):=hl1
 have Ho:Hid (qaE ls (j:Int).toNat=l.owner):=by show _=_;rw [Int.toNat_natCast];exact qbT hl1
 have go:Hid (askN ls (j:Int) no=if l.owner==no then 3 else if l.owner==0 then 0 else if hasB (qbu ls l.owner) no then 4 else 1):=by
  show _=_
  unfold askN
  rw [hb,Hn.out,c1,c2,c3,Ho.out]
  rfl
 clear hl1 r1 BAD h0 h1
 cases c4:(l.owner==no)
 rotate_left
 ·have Hr1:Hid (askN ls (j:Int) no=3):=by show _=_;rw [go.out,c4];rfl
  have Hr2:Hid (askL ls (j:Int) no=ls):=by show _=_;unfold askL;rw [hb,Hr1.out];rfl
  go_wp2_with (first
   | (go_at_call 27;refine (qag _ _ _ _).mono ?_;rintro e w' ⟨rfl,hw'⟩;have hw2:=hw'.symm;subst hw2)
   | (go_at_call 84;refine (WA.out _ K2).mono ?_;rintro e w3 ⟨rfl,k3⟩;have kk:Keeps w w3:=K2.trans k3))
  go_ret2
  exact ⟨_,vs,by rw [Hr1.out];rfl,by rw [Hr2.out];exact M.out.keeps k3 |>.widen (Nat.le_refl _) k3.size,kk⟩
 have Hvn:Hid (vs.length=n):=M.out.len.trans Hn.out
 obtain ⟨b3,cap3,ev⟩:=M.out.own.blk (by rw [Hvn.out];omega)
 rw [Hvn.out] at ev
 subst ev
 obtain ⟨x,hx⟩:=qal (xs:=vs) (k:=j) (by rw [Hvn.out];exact hj)
 have Hx:Hid (vs[j]?=some x):=hx
 have O0:Own 37 2 lvc w2 w.heap.size (.slice (some ⟨b3,0,none⟩) vs.length cap3) vs:=by rw [Hvn.out];exact M.out.own
 have bl:Hid (b3 < w2.heap.size):=(O0.ltb b3 rfl).2
 have bl0:Hid (w.heap.size <= b3):=(O0.ltb b3 rfl).1
 have s0:∀ w',Keeps w2 w'->w'.cell? ⟨b3,j*2,none⟩=some (.int .i64 x.o):=Keeps.has (O0.cellAt qbj (k:=0) hx (by omega))
 have s1:∀ w',Keeps w2 w'->w'.cell? ⟨b3,j*2+1,none⟩=some x.row:=Keeps.has (O0.cellAt qbj (k:=1) hx (by omega))
 have s2:∀ w',Keeps w2 w'->∀ o,w'.frozen? ⟨b3,o,none⟩=false:=fun w' h o=>(h.frozens _ _ bl.out).trans (O0.frozenAt o)
 have X1:=(M.out.rows j x l hx Hl.out)
 have OX:Hid (∀ w',Keeps w2 w'->OwnN w' w.heap.size x.row l.waits):=fun w' h=>X1.2.keeps h
 have Xb:Hid (∀ q,x.row.ownBlock=some q->q < w2.heap.size /\ q≠b3):=fun q hq=>⟨(X1.2.ltb q hq).2,fun e=>(M.out.inn j x q hx hq).2 (by rw [e];rfl)⟩
 have Xo:Hid (x.o=l.owner):=X1.1
 have hw1:Hid (l.waits.length <= 2097152):=by show _ <= _;have:=qcM Hl.out;have:=HL.out;unfold qaj at this;omega
 clear X1 O0 hx
 obtain ⟨xo,xa,xn,xc⟩:=x
 dsimp only at s0 s1
 cases c5:(l.owner==0)
 rotate_left
 ·have Hr1:Hid (askN ls (j:Int) no=0):=by show _=_;rw [go.out,c4,c5];rfl
  have Hr2:Hid (askL ls (j:Int) no=ls.set j { l with owner:=no }):=by show _=_;unfold askL;rw [hb,Hr1.out,Int.toNat_natCast,qd5 Hl.out (qcl no)];rfl
  go_wp2_with (first
   | (go_at_call 27;refine (qag _ _ _ _).mono ?_;rintro e w' ⟨rfl,hw'⟩;have hw2:=hw'.symm;subst hw2)
   | (go_at_call 84;refine (WA.out _ K2).mono ?_;rintro e w3 ⟨rfl,k3⟩;have kk:Keeps w w3:=K2.trans k3))
  go_ret2
  refine ⟨_,vs.set j ⟨no,xa,xn,xc⟩,by rw [Hr1.out];rfl,?_,kk.setCell (p:=⟨b3,j*2,none⟩) bl0.out _⟩
  rw [Hr2.out]
  have m:Mine w3 w.heap.size w3.heap.size (.slice (some ⟨b3,0,none⟩) vs.length cap3) vs ls:=by rw [Hvn.out];exact (M.out.keeps k3).widen (Nat.le_refl _) k3.size
  have:=m.setOwner Hx.out Hl.out no
  rw [List.length_set,Hvn.out] at this
  simpa using this
 cases c6:hasB (qbu ls l.owner) no
 rotate_left
 ·have Hr1:Hid (askN ls (j:Int) no=4):=by show _=_;rw [go.out,c4,c5,c6];rfl
  have Hr2:Hid (askL ls (j:Int) no=ls):=by show _=_;unfold askL;rw [hb,Hr1.out];rfl
  go_wp2_with (first
   | (go_at_call 27;refine (qag _ _ _ _).mono ?_;rintro e w' ⟨rfl,hw'⟩;have hw2:=hw'.symm;subst hw2)
   | (go_at_call 84;refine (WA.out _ K2).mono ?_;rintro e w3 ⟨rfl,k3⟩;have kk:Keeps w w3:=K2.trans k3)
   | (go_at_call 181;refine (CO.out _ _ kk).mono ?_;rintro e w4 ⟨v4,rfl,O4,k4⟩;have kk4:Keeps w w4:=kk.trans k4;have k24:Keeps w2 w4:=k3.trans k4;obtain ⟨a4,c4',e4,N4,l4,l4'⟩:=OwnN.ns O4;subst e4)
   | (go_at_call 147;refine (qdM a4 c4' (qbu ls l.owner) no _ (Nat.le_trans l4 l4') N4).mono ?_;rintro e w5 ⟨rfl,k5⟩;rw [c6];have kk5:Keeps w w5:=kk4.trans k5;have k25:Keeps w2 w5:=k24.trans k5))
  go_ret2
  exact ⟨_,vs,by rw [Hr1.out];rfl,by rw [Hr2.out];exact M.out.keeps k25 |>.widen (Nat.le_refl _) k25.size,kk5⟩
 ·have Hr1:Hid (askN ls (j:Int) no=1):=by show _=_;rw [go.out,c4,c5,c6];rfl
  have Hr2:Hid (askL ls (j:Int) no=ls.set j { l with waits:=l.waits++[no] }):=by show _=_;unfold askL;rw [hb,Hr1.out,Int.toNat_natCast,qd5 Hl.out (qez no)];rfl
  go_wp2_with (first
   | (go_at_call 27;refine (qag _ _ _ _).mono ?_;rintro e w' ⟨rfl,hw'⟩;have hw2:=hw'.symm;subst hw2)
   | (go_at_call 84;refine (WA.out _ K2).mono ?_;rintro e w3 ⟨rfl,k3⟩;have kk:Keeps w w3:=K2.trans k3)
   | (go_at_call 181;refine (CO.out _ _ kk).mono ?_;rintro e w4 ⟨v4,rfl,O4,k4⟩;have kk4:Keeps w w4:=kk.trans k4;have k24:Keeps w2 w4:=k3.trans k4;obtain ⟨a4,c4',e4,N4,l4,l4'⟩:=OwnN.ns O4;subst e4)
   | (go_at_call 147;refine (qdM a4 c4' (qbu ls l.owner) no _ (Nat.le_trans l4 l4') N4).mono ?_;rintro e w5 ⟨rfl,k5⟩;rw [c6];have kk5:Keeps w w5:=kk4.trans k5;have k25:Keeps w2 w5:=k24.trans k5)
   | (at_builtin;(refine qc8 rfl _ _ 27 rfl w.heap.size 3 (.int .i64 0) 1 8 ic Tryz.underlying27 (by kernel_rfl) rfl (by decide) qaW qcH _ l.waits rfl (OX.out _ (k25.alloc _)) (by have:=kk5.size;simp;omega) no _ 1 (Blk.new _ _ _) rfl ?c1 ?c2 ?_)))
  case c1=>have:=hw1.out;unfold maxLen;omega
  case c2=>have:=hw1.out;omega
  intro v6 w6 o6 g6 f6
  obtain ⟨a6,c7,e6,-,-,-⟩:=OwnN.ns o6
  obtain ⟨m6,Hm6⟩:∃ m,Hid ((l.waits++[no]).length=m):=⟨_,rfl⟩
  rw [Hm6.out] at e6
  subst e6
  have O6:Hid (OwnN w6 w.heap.size (.slice a6 m6 c7) (l.waits++[no])):=o6
  have bl5:Hid (b3 < w5.heap.size):=Nat.lt_of_lt_of_le bl.out k25.size
  have key:Hid (∀ q,q < w5.heap.size->(Value.slice xa xn xc).ownBlock≠some q->w6.heap[q]?=w5.heap[q]?):=fun q hq hne=>(g6.block q (by simp;omega) (fun e=>hne e.symm)).trans (Below.block ((Keeps.refl w5).alloc _) q hq)
  have h36:w6.heap[b3]?=w5.heap[b3]?:=key.out b3 bl5.out (fun e=>(Xb.out b3 e).2 rfl)
  have s3:w6.cell? ⟨b3,j*2+1,none⟩=some (.slice xa xn xc):=(World.cell?_of_block (w:=w5) h36).trans (s1 _ k25)
  have s4:∀ o,w6.frozen? ⟨b3,o,none⟩=false:=fun o=>(World.frozen?_of_block (w:=w5) h36).trans (s2 _ k25 o)
  have sz6:Hid (w5.heap.size+1 <= w6.heap.size):=by have:=g6.size;simp at this;exact this
  have f6':Hid (∀ q,(Value.slice a6 m6 c7).ownBlock=some q->(Value.slice xa xn xc).ownBlock=some q∨q=w5.heap.size+1):=fun q hq=>by have:=f6 q hq;simpa using this
  have kk6:Hid (Keeps w w6):=Keeps.grown (kk5.alloc _) g6 (fun q hq=>((OX.out _ k25).ltb q hq).1)
  clear o6 g6 f6 s0 s1 s2
  go_wp2
  go_ret2
  refine ⟨_,vs.set j ⟨xo,a6,m6,c7⟩,by rw [Hr1.out];rfl,?_,kk6.out.setCell (p:=⟨b3,j*2+1,none⟩) bl0.out _⟩
  rw [Hr2.out]
  have m5:Mine w5 w.heap.size w5.heap.size (.slice (some ⟨b3,0,none⟩) n cap3) vs ls:=(M.out.keeps k25).widen (Nat.le_refl _) k25.size
  have ow6:Own 37 2 lvc w6 w.heap.size (.slice (some ⟨b3,0,none⟩) n cap3) vs:=m5.own.same fun q hq=>by
   have:q=b3:=by simp [Value.ownBlock] at hq;exact hq.symm
   rw [this];exact h36
  refine m5.swap (x:=⟨xo,xa,xn,xc⟩) (y:=⟨xo,a6,m6,c7⟩) Hx.out (ow6.setAt qbj (i:=j) (j:=1) (x:=⟨xo,xa,xn,xc⟩) (y:=⟨xo,a6,m6,c7⟩) (u := .slice a6 m6 c7) Hx.out (by omega) rfl) (fun q h1 h2 h3 => ?_) Xo.out ?_ (by have:=sz6.out;simp;omega) (fun q hq => ?_)
  ·have:q≠b3:=fun e=>h1 (by rw [e];rfl)
   rw [qa2 this]
   exact key.out q h3 h2
  ·refine Own.same O6.out fun q hq=>qa2 ?_
   rcases f6'.out q hq with h | h
   ·exact (Xb.out q h).2
   ·have:=bl5.out;omega
  ·rcases f6'.out q hq with h | h
   ·exact .inr h
   ·have:=sz6.out
    have:=O6.out.ltb q hq
    exact .inl ⟨by omega,by simp;omega⟩
end Go.Proofs.YteagpjlgjfaclaaGreatDoor
namespace Go.Proofs.YteagpjlgjfaclaaGreatDoor
set_option maxRecDepth 100000
open Go.RowKit
variable {p p':Bool}
attribute [local go_sem] Keeps.refl Keeps.alloc Keeps.drew Keeps.drewN
end Go.Proofs.YteagpjlgjfaclaaGreatDoor
namespace Go.Proofs.YteagpjlgjfaclaaGreatDoor
set_option maxRecDepth 100000
open Go.RowKit
def dueB (t:Tsk):Bool:=qah t&&t.cls==1
def qeq (t:Tsk) (now:Int):Bool:=decide (t.due <= now)||decide ((t.due - now)*t.q < t.left*t.p)
def qdy (t:Tsk) (now:Int):Bool:=dueB t&&inB now 0 100000&&qeq t now
def qbQ (t:Tsk) (now:Int):Tsk:=if qdy t now then { t with left:=t.q,due:=now+t.p } else t
def qdY (t:Tsk) (now:Int):Bool:=dueB t&&inB now 0 100000&&decide (t.due <= now)
def qbZ (t:Tsk) (now:Int):Tsk:=if qdY t now then { t with left:=t.q,due:=t.due+t.p } else t
def qer (t:Tsk):Bool:=dueB t&&decide (0 < t.left)
def qcp (t:Tsk):Tsk:=if qer t then { t with left:=t.left - 1 } else t
def qbD (a b:Tsk):Bool:=dueB a&&dueB b&&(decide (a.due < b.due)||a.due==b.due&&decide (a.no < b.no))
structure IsDue (t:Tsk):Prop where
 cls:t.cls=1
 no:1 <= t.no /\ t.no <= 1000
 cpu:0 <= t.cpu /\ t.cpu <= 3
 st:1 <= t.st /\ t.st <= 2
 p:1 <= t.p /\ t.p <= 40
 q:1 <= t.q /\ t.q <= t.p
 left:0 <= t.left /\ t.left <= t.q
 due:0 <= t.due /\ t.due <= 100040
 none:t.prio=0 /\ t.round=0 /\ t.seq=0 /\ t.nice=0 /\ t.v=0
theorem qeZ (t:Tsk):dueB t=true↔IsDue t:=by
 constructor
 ·intro h
  simp only [dueB,Bool.and_eq_true,beq_iff_eq] at h
  obtain ⟨h1,h2⟩:=h
  simp [qah,qbf,qa1,h2,fixZ,qby,qas,qbL] at h1
  obtain ⟨⟨⟨⟨hno,hcpu⟩,hst⟩,hz⟩,⟨⟨hp,hq⟩,hl⟩,hd⟩:=h1
  exact ⟨h2,by omega,by omega,by omega,by omega,by omega,by omega,by omega,by omega,by omega,by omega,by omega,by omega⟩
 ·rintro ⟨h2,hno,hcpu,hst,hp,hq,hl,hd,h0,h1,h3,h4,h5⟩
  simp [dueB,qah,qbf,qa1,h2,fixZ,qby,qas,qbL,h0,h1,h3,h4,h5]
  omega
theorem qfX {a b A B:Int} (a0:0 <= a) (a1:a <= A) (b0:0 <= b) (b1:b <= B):0 <= a*b /\ a*b <= A*B :=
 ⟨Int.mul_nonneg a0 b0,Int.mul_le_mul a1 b1 b0 (by omega)⟩
end Go.Proofs.YteagpjlgjfaclaaGreatDoor
namespace Go.Proofs.YteagpjlgjfaclaaGreatDoor
set_option maxRecDepth 100000
open Go.RowKit
attribute [local go_sem] Keeps.refl Keeps.alloc Keeps.drew Keeps.drewN
end Go.Proofs.YteagpjlgjfaclaaGreatDoor
namespace Go.Proofs.YteagpjlgjfaclaaGreatDoor
set_option maxRecDepth 100000
open Go.RowKit
def allW:List Lk->List Int
 | []=>[]
 | l::r=>l.waits++allW r
theorem qlh (xs ys:List Lk):allW (xs++ys)=allW xs++allW ys:=by
 induction xs with
 | nil=>rfl
 | cons l r ih=>simp [allW,ih]
theorem qdL {ls:List Lk} {x:Int}:x∈allW ls↔∃ (j:Nat) (l:Lk),ls[j]?=some l /\ hasB l.waits x=true:=by
 induction ls with
 | nil=>simp [allW]
 | cons l r ih =>
  simp only [allW,List.mem_append,ih]
  constructor
  ·rintro (h | ⟨j,m,h1,h2⟩)
   ·exact ⟨0,l,rfl,qcK.2 h⟩
   ·exact ⟨j+1,m,h1,h2⟩
  ·rintro ⟨j,m,h1,h2⟩
   cases j with
   | zero=>simp at h1;subst h1;exact .inl (qcK.1 h2)
   | succ j=>exact .inr ⟨j,m,by simpa using h1,h2⟩
theorem qg0 {ls:List Lk} {x:Int}:qay ls x=none↔x ∉ allW ls:=by
 rw [qdL]
 constructor
 ·rintro h ⟨j,l,h1,h2⟩
  rw [qeA h j l h1] at h2;cases h2
 ·intro h
  refine qfm fun j m hm => ?_
  cases hb:hasB m.waits x
  ·rfl
  ·exact absurd ⟨j,m,hm,hb⟩ h
theorem qfq (ls:List Lk) (x:Int):qaG ls x=qaQ (allW ls) x:=by
 induction ls with
 | nil=>rfl
 | cons l r ih=>simp only [qaG,allW,qfs,ih]
theorem qfr:∀ {xs:List Int},xs.Nodup↔∀ x∈xs,qaQ xs x=1
 | []=>by simp
 | y::r=>by
  rw [List.nodup_cons,qfr (xs:=r)]
  have e:∀ x,qaQ (y::r) x=(if y==x then 1 else 0)+qaQ r x:=by
   intro x
   have:=qfs [y] r x
   simp only [List.singleton_append] at this
   rw [this]
   congr 1
   cases c:(y==x) <;> simp [qaQ,c]
  constructor
  ·rintro ⟨h1,h2⟩ x hx
   rw [e]
   rcases List.mem_cons.1 hx with rfl | hx
   ·have:=qgR.2 (qfk.2 h1);simp;omega
   ·have hne:y≠x:=fun e'=>h1 (e' ▸ hx)
    have:=h2 x hx
    rw [if_neg (by simpa using hne)];omega
  ·intro h
   have hy:y ∉ r:=fun hm=>by
    have h1:=h y (List.mem_cons_self ..)
    rw [e] at h1
    have:=qgQ.2 (qcK.2 hm)
    simp at h1;omega
   refine ⟨hy,fun x hx => ?_⟩
   have h1:=h x (List.mem_cons_of_mem _ hx)
   have hne:y≠x:=fun e'=>hy (e' ▸ hx)
   rw [e,if_neg (by simpa using hne)] at h1
   omega
theorem qli (ls:List Lk):sumW ls=(allW ls).length:=by
 induction ls with
 | nil=>rfl
 | cons l r ih=>simp [sumW,allW,ih]
theorem qlj {xs:List Int} {n:Nat} (h:xs.Nodup) (hb:∀ x∈xs,1 <= x /\ x <= (n:Int)):xs.length <= n:=by
 refine qeB n xs.length (fun i=>((xs.getD i 0) - 1).toNat) (fun i hi => ?_) (fun i j hi hj e => ?_)
 ·have:=hb _ (List.getElem_mem hi)
  rw [List.getD_eq_getElem?_getD,List.getElem?_eq_getElem hi,Option.getD_some]
  omega
 ·have h1:=hb _ (List.getElem_mem hi)
  have h2:=hb _ (List.getElem_mem hj)
  simp only [List.getD_eq_getElem?_getD,List.getElem?_eq_getElem hi,List.getElem?_eq_getElem hj,Option.getD_some] at e
  exact (List.getElem_inj h).1 (by omega)
theorem Right.few {ls:List Lk} (R:Right ls):sumW ls <= 1000:=by
 rw [qli]
 refine qlj (n:=1000) (qfr.2 fun x hx => ?_) fun x hx => ?_
 ·obtain ⟨j,l,hl,h⟩:=qdL.1 hx
  rw [<- qfq];exact R.once j l x hl h
 ·obtain ⟨j,l,hl,h⟩:=qdL.1 hx
  exact R.no j l x hl h
end Go.Proofs.YteagpjlgjfaclaaGreatDoor
namespace Go.Proofs.YteagpjlgjfaclaaGreatDoor
set_option maxRecDepth 100000
open Go.RowKit
attribute [local go_sem] Keeps.refl Keeps.alloc Keeps.drew Keeps.drewN
set_option maxHeartbeats 8000000 in
theorem qk7 (a:Option Addr) (cap:Nat) (ls:List Lk) (i no next:Int) (w:World) (hl:qaj ls <= 2097152) (hs:Lks true w a ls) :
  Calls Tryz.prog 151 #[.slice a ls.length cap,.int .i64 i,.int .i64 no,.int .i64 next] w fun e w'=>∃ v vs,e = .returned (.tuple #[v,.bool (qbv ls i no next)]) /\ Mine w' w.heap.size w'.heap.size v vs (qaX ls i no next) /\ Keeps w w':=by
 have HL:Hid (qaj ls <= 2097152):=hl
 have hl0:ls.length <= 2097152:=by unfold qaj at hl;omega
 clear hl
 have HS:Hid (Lks true w a ls):=hs
 clear hs
 have LO:Hid (∀ w',Keeps w w'->Calls Tryz.prog 70 #[.slice a ls.length cap] w' fun e w''=>e = .returned (.bool (qax ls)) /\ Keeps w' w''):=fun w' h=>qeH a cap ls w' HL.out (HS.out.keeps h)
 have CP:Hid (∀ w',Keeps w w'->Calls Tryz.prog 90 #[.slice a ls.length cap] w' fun e w''=>∃ v vs,e = .returned v /\ Mine w'' w'.heap.size w''.heap.size v vs ls /\ Keeps w' w''):=fun w' h=>qfh a cap ls w' HL.out (HS.out.keeps h)
 generalize hn:ls.length=n at hl0
 have Hn:Hid (ls.length=n):=hn
 rw [hn] at LO CP
 clear hn
 cases hb:qax ls
 ·have Hr:Hid (qbv ls i no next=false):=by show _=_;unfold qbv;rw [hb];rfl
  have Hq:Hid (qaX ls i no next=[]):=by show _=_;unfold qaX;rw [hb];rfl
  rw [hb] at LO
  go_enter Tryz.func151,Tryz.ntmps151
  go_wp2_with (go_at_call 70;refine (LO.out _ (Keeps.refl _)).mono ?_;rintro e w1 ⟨rfl,k1⟩)
  go_ret2
  refine ⟨_,[],by rw [Hr.out];rfl,?_,k1.alloc _⟩
  rw [Hq.out]
  exact Mine.none _ _ _ _ (Own.new 37 2 lvc w1 k1.size) (fun q hq=>by simp [Value.ownBlock] at hq;simp;omega)
 rw [hb] at LO
 go_enter Tryz.func151,Tryz.ntmps151
 go_wp2_with (first
  | (go_at_call 70;refine (LO.out _ (Keeps.refl _)).mono ?_;rintro e w1 ⟨rfl,k1⟩)
  | fail)
 refine (CP.out _ k1).mono ?_
 rintro e w2 ⟨v,vs,rfl,M0,k2⟩
 have M:Hid (Mine w2 w.heap.size w2.heap.size v vs ls):=M0.widen k1.size (Nat.le_refl _)
 have K2:Keeps w w2:=k1.trans k2
 clear M0 k1 k2 LO CP
 have ewrap:IntKind.i64.wrap ((n:Int) - 1)=(n:Int) - 1:=Go.IntWalk.i64_in _ (by omega)
 have BAD:Hid (∀ (_:(inB i 0 ((n:Int) - 1)&&(!(no==0)&&(qaE ls i.toNat==no&&qd6 (qcL ls i.toNat) next)))=false),qbv ls i no next=false /\ qaX ls i no next=ls):=by
  intro h
  have e1:qbv ls i no next=false:=by unfold qbv;rw [hb,Hn.out,h];rfl
  refine ⟨e1,?_⟩
  unfold qaX
  rw [hb,e1];rfl
 cases c1:inB i 0 ((n:Int) - 1)
 ·have Hr:=BAD.out (by rw [c1];rfl)
  have Hr1:Hid (qbv ls i no next=false):=Hr.1
  have Hr2:Hid (qaX ls i no next=ls):=Hr.2
  clear Hr
  go_wp2_with (go_at_call 27;refine (qag _ _ _ _).mono ?_;rintro e w' ⟨rfl,hw'⟩;have hw2:=hw'.symm;subst hw2)
  go_ret2
  exact ⟨_,vs,by rw [Hr1.out];rfl,by rw [Hr2.out];exact M.out,K2⟩
 cases c2:(no==0)
 rotate_left
 ·have Hr:=BAD.out (by rw [c2];simp)
  have Hr1:Hid (qbv ls i no next=false):=Hr.1
  have Hr2:Hid (qaX ls i no next=ls):=Hr.2
  clear Hr
  go_wp2_with (go_at_call 27;refine (qag _ _ _ _).mono ?_;rintro e w' ⟨rfl,hw'⟩;have hw2:=hw'.symm;subst hw2)
  go_ret2
  exact ⟨_,vs,by rw [Hr1.out];rfl,by rw [Hr2.out];exact M.out,K2⟩
 obtain ⟨h0,h1⟩:=qas.1 c1
 obtain ⟨j,rfl⟩:∃ j:Nat,i=(j:Int):=⟨i.toNat,by omega⟩
 have hj:j < n:=by omega
 have hj':(j:Int) < (n:Int):=by omega
 obtain ⟨l,hl1⟩:=qal (xs:=ls) (k:=j) (by rw [Hn.out];exact hj)
 obtain ⟨b,off,a',cap',rfl,r0,r1,hle,hns⟩:=HS.out.at hl1
 have Hl:Hid (ls[j]?=some l):=hl1
 have N1:Hid (Ns w a' l.waits):=hns
 have Hle:Hid (l.waits.length <= maxLen):=hle
 have Ho:Hid (qaE ls (j:Int).toNat=l.owner):=by show _=_;rw [Int.toNat_natCast];exact qbT hl1
 have Hw:Hid (qcL ls (j:Int).toNat=l.waits):=by show _=_;rw [Int.toNat_natCast];simp [qcL,hl1]
 have hw1:Hid (l.waits.length <= 2097152):=by show _ <= _;have:=qcM Hl.out;have:=HL.out;unfold qaj at this;omega
 clear hl1 hns hle h0 h1
 have eq0:(l.owner==no) = !(l.owner != no):=by simp [bne]
 cases c4:(l.owner != no)
 rotate_left
 ·have Hr:=BAD.out (by rw [Ho.out,eq0,c4];simp)
  have Hr1:Hid (qbv ls (j:Int) no next=false):=Hr.1
  have Hr2:Hid (qaX ls (j:Int) no next=ls):=Hr.2
  clear Hr
  go_wp2_with (go_at_call 27;refine (qag _ _ _ _).mono ?_;rintro e w' ⟨rfl,hw'⟩;have hw2:=hw'.symm;subst hw2)
  go_ret2
  exact ⟨_,vs,by rw [Hr1.out];rfl,by rw [Hr2.out];exact M.out,K2⟩
 have GO:Hid (qbv ls (j:Int) no next=qd6 l.waits next):=by
  show _=_
  unfold qbv
  rw [hb,Hn.out,c1,c2,Ho.out,eq0,c4,Hw.out]
  rfl
 obtain ⟨m,Hm⟩:∃ m:Nat,Hid (l.waits.length=m):=⟨_,rfl⟩
 have hm1:m <= 2097152:=by rw [<- Hm.out];exact hw1.out
 rw [Hm.out] at r1
 have HA:Hid (∀ w',Keeps w w'->Calls Tryz.prog 147 #[.slice a' m cap',.int .i64 next] w' fun e w''=>e = .returned (.bool (hasB l.waits next)) /\ Keeps w' w''):=by
  intro w' h
  have:=qdM a' cap' l.waits next w' Hle.out (N1.out.keeps h)
  rwa [Hm.out] at this
 have LE:Hid (∀ w',Keeps w w'->Calls Tryz.prog 182 #[.slice a' m cap',.int .i64 next] w' fun e w''=>∃ v,e = .returned v /\ OwnN w'' w'.heap.size v (qbi l.waits next) /\ Keeps w' w''):=by
  intro w' h
  have:=qly a' cap' l.waits next w' hw1.out (N1.out.keeps h)
  rwa [Hm.out] at this
 have MN:Hid (qd6 l.waits next=if (m:Int)==0 then next==0 else hasB l.waits next):=by
  show _=_
  unfold qd6
  rw [Hm.out]
  by_cases h:m=0
  ·subst h;rfl
  ·rw [if_neg (by simpa using h),if_neg (by simp;omega)]
 have Hvn:Hid (vs.length=n):=M.out.len.trans Hn.out
 obtain ⟨b3,cap3,ev⟩:=M.out.own.blk (by rw [Hvn.out];omega)
 rw [Hvn.out] at ev
 subst ev
 obtain ⟨x,hx⟩:=qal (xs:=vs) (k:=j) (by rw [Hvn.out];exact hj)
 have Hx:Hid (vs[j]?=some x):=hx
 have O0:Own 37 2 lvc w2 w.heap.size (.slice (some ⟨b3,0,none⟩) vs.length cap3) vs:=by rw [Hvn.out];exact M.out.own
 have bl:Hid (b3 < w2.heap.size):=(O0.ltb b3 rfl).2
 have bl0:Hid (w.heap.size <= b3):=(O0.ltb b3 rfl).1
 have s0:∀ w',Keeps w2 w'->w'.cell? ⟨b3,j*2,none⟩=some (.int .i64 x.o):=Keeps.has (O0.cellAt qbj (k:=0) hx (by omega))
 have s1:∀ w',Keeps w2 w'->w'.cell? ⟨b3,j*2+1,none⟩=some x.row:=Keeps.has (O0.cellAt qbj (k:=1) hx (by omega))
 have s2:∀ w',Keeps w2 w'->∀ o,w'.frozen? ⟨b3,o,none⟩=false:=fun w' h o=>(h.frozens _ _ bl.out).trans (O0.frozenAt o)
 clear O0 hx eq0
 obtain ⟨xo,xa,xn,xc⟩:=x
 dsimp only at s0 s1
 cases c3:((m:Int)==0)
 ·have m0:decide (0 < m)=true:=by simp at c3;simp;omega
  have m0':(0:Int) < (m:Int):=by simp at c3;omega
  cases c6:hasB l.waits next
  ·have Hr:=BAD.out (by rw [Hw.out,MN.out,c3,c6];simp)
   have Hr1:Hid (qbv ls (j:Int) no next=false):=Hr.1
   have Hr2:Hid (qaX ls (j:Int) no next=ls):=Hr.2
   clear Hr
   go_wp2_with (first | (go_at_call 27;refine (qag _ _ _ _).mono ?_;rintro e w' ⟨rfl,hw'⟩;have hw2:=hw'.symm;subst hw2) | (go_at_call 147;refine (HA.out _ K2).mono ?_;rintro e w3 ⟨rfl,k3⟩;rw [c6];have kk:Keeps w w3:=K2.trans k3))
   go_ret2
   exact ⟨_,vs,by rw [Hr1.out];rfl,by rw [Hr2.out];exact M.out.keeps k3 |>.widen (Nat.le_refl _) k3.size,kk⟩
  ·have Hr1:Hid (qbv ls (j:Int) no next=true):=by show _=_;rw [GO.out,MN.out,c3,c6];rfl
   have Hr2:Hid (qaX ls (j:Int) no next=ls.set j ⟨next,qbi l.waits next⟩):=by show _=_;unfold qaX;rw [hb,Hr1.out,Int.toNat_natCast,qd5 Hl.out (qdI next)];rfl
   go_wp2_with (first
    | (go_at_call 27;refine (qag _ _ _ _).mono ?_;rintro e w' ⟨rfl,hw'⟩;have hw2:=hw'.symm;subst hw2)
    | (go_at_call 147;refine (HA.out _ K2).mono ?_;rintro e w3 ⟨rfl,k3⟩;rw [c6];have kk:Keeps w w3:=K2.trans k3)
    | (go_at_call 182;refine (LE.out _ kk).mono ?_;rintro e w4 ⟨v4,rfl,O4,k4⟩;have kk4:Keeps w w4:=kk.trans k4;have k24:Keeps w2 w4:=k3.trans k4;obtain ⟨a4,c8,e4,-,-,-⟩:=OwnN.ns O4;obtain ⟨m4,Hm4⟩:∃ m,Hid ((qbi l.waits next).length=m):=⟨_,rfl⟩;rw [Hm4.out] at e4;subst e4;have OH:Hid (OwnN w4 w3.heap.size (.slice a4 m4 c8) (qbi l.waits next)):=O4;clear O4))
   go_ret2
   refine ⟨_,vs.set j ⟨next,a4,m4,c8⟩,by rw [Hr1.out];rfl,?_,(kk4.setCell (p:=⟨b3,j*2,none⟩) bl0.out _).setCell (p:=⟨b3,j*2+1,none⟩) bl0.out _⟩
   rw [Hr2.out]
   have m4':Mine w4 w.heap.size w3.heap.size (.slice (some ⟨b3,0,none⟩) n cap3) vs ls:=(M.out.keeps k24).widen (Nat.le_refl _) k3.size
   have hb4:∀ q,(Value.slice a4 m4 c8).ownBlock=some q->w3.heap.size <= q /\ q < w4.heap.size:=fun q hq=>OH.out.ltb q hq
   have hn4:∀ q,(Value.slice a4 m4 c8).ownBlock=some q->q≠b3:=fun q hq=>by have:=(hb4 q hq).1;have:=bl.out;have:=k3.size;omega
   refine m4'.swap (x:=⟨xo,xa,xn,xc⟩) (y:=⟨next,a4,m4,c8⟩) Hx.out (m4'.own.setTwo Hx.out ⟨next,a4,m4,c8⟩) (fun q h1 h2 h3 => ?_) rfl ?_ (by have:=k24.size;have:=k3.size;have:=k4.size;simp;omega) (fun q hq => .inl ⟨(hb4 q hq).1,by have:=(hb4 q hq).2;simp;omega⟩)
   ·have:q≠b3:=fun e=>h1 (by rw [e];rfl)
    rw [qa2 this,qa2 this]
   ·refine Own.same (Own.base OH.out kk.size) fun q hq => ?_
    rw [qa2 (hn4 q hq),qa2 (hn4 q hq)]
 ·have m0:decide (0 < m)=false:=by simp at c3;simp;omega
  have eqn:(next==0) = !(next != 0):=by simp [bne]
  cases c6:(next != 0)
  rotate_left
  ·have Hr:=BAD.out (by rw [Hw.out,MN.out,c3,eqn,c6];simp)
   have Hr1:Hid (qbv ls (j:Int) no next=false):=Hr.1
   have Hr2:Hid (qaX ls (j:Int) no next=ls):=Hr.2
   clear Hr
   go_wp2_with (go_at_call 27;refine (qag _ _ _ _).mono ?_;rintro e w' ⟨rfl,hw'⟩;have hw2:=hw'.symm;subst hw2)
   go_ret2
   exact ⟨_,vs,by rw [Hr1.out];rfl,by rw [Hr2.out];exact M.out,K2⟩
  ·have Hr1:Hid (qbv ls (j:Int) no next=true):=by show _=_;rw [GO.out,MN.out,c3,eqn,c6];rfl
   have Hr2:Hid (qaX ls (j:Int) no next=ls.set j ⟨next,qbi l.waits next⟩):=by show _=_;unfold qaX;rw [hb,Hr1.out,Int.toNat_natCast,qd5 Hl.out (qdI next)];rfl
   go_wp2_with (first
    | (go_at_call 27;refine (qag _ _ _ _).mono ?_;rintro e w' ⟨rfl,hw'⟩;have hw2:=hw'.symm;subst hw2)
    | (go_at_call 182;refine (LE.out _ K2).mono ?_;rintro e w4 ⟨v4,rfl,O4,k4⟩;have kk4:Keeps w w4:=K2.trans k4;have k24:Keeps w2 w4:=k4;obtain ⟨a4,c8,e4,-,-,-⟩:=OwnN.ns O4;obtain ⟨m4,Hm4⟩:∃ m,Hid ((qbi l.waits next).length=m):=⟨_,rfl⟩;rw [Hm4.out] at e4;subst e4;have OH:Hid (OwnN w4 w2.heap.size (.slice a4 m4 c8) (qbi l.waits next)):=O4;clear O4))
   go_ret2
   refine ⟨_,vs.set j ⟨next,a4,m4,c8⟩,by rw [Hr1.out];rfl,?_,(kk4.setCell (p:=⟨b3,j*2,none⟩) bl0.out _).setCell (p:=⟨b3,j*2+1,none⟩) bl0.out _⟩
   rw [Hr2.out]
   have m4':Mine w4 w.heap.size w2.heap.size (.slice (some ⟨b3,0,none⟩) n cap3) vs ls:=(M.out.keeps k24).widen (Nat.le_refl _) (Nat.le_refl _)
   have hb4:∀ q,(Value.slice a4 m4 c8).ownBlock=some q->w2.heap.size <= q /\ q < w4.heap.size:=fun q hq=>OH.out.ltb q hq
   have hn4:∀ q,(Value.slice a4 m4 c8).ownBlock=some q->q≠b3:=fun q hq=>by have:=(hb4 q hq).1;have:=bl.out;omega
   refine m4'.swap (x:=⟨xo,xa,xn,xc⟩) (y:=⟨next,a4,m4,c8⟩) Hx.out (m4'.own.setTwo Hx.out ⟨next,a4,m4,c8⟩) (fun q h1 h2 h3 => ?_) rfl ?_ (by have:=k24.size;simp;omega) (fun q hq => .inl ⟨(hb4 q hq).1,by have:=(hb4 q hq).2;simp;omega⟩)
   ·have:q≠b3:=fun e=>h1 (by rw [e];rfl)
    rw [qa2 this,qa2 this]
   ·refine Own.same (Own.base OH.out K2.size) fun q hq => ?_
    rw [qa2 (hn4 q hq),qa2 (hn4 q hq)]
end Go.Proofs.YteagpjlgjfaclaaGreatDoor
namespace Go.Proofs.YteagpjlgjfaclaaGreatDoor
set_option maxRecDepth 100000
open Go.RowKit
attribute [local go_sem] Keeps.refl Keeps.alloc Keeps.drew Keeps.drewN
theorem qdZ (t:Tsk) (w:World) :
  Calls Tryz.prog 198 #[tk t] w fun e w'=>e = .returned (.bool (dueB t)) /\ Keeps w w':=by
 go_enter Tryz.func198,Tryz.ntmps198
 go_wp2_with fail
 refine (qcC t _).mono ?_
 rintro e w1 ⟨rfl,k1⟩
 have B1:=(Blk.new w (tc t) 43).keeps k1
 have K1:Keeps w w1:=((Keeps.refl w).alloc _).trans k1
 obtain ⟨_,b1,b2⟩:=B1
 clear k1
 cases hb:qah t
 ·have Hr:Hid (dueB t=false):=by show _=_;simp [dueB,hb]
  go_wp2
  go_ret
  exact ⟨by rw [Hr.out];rfl,K1⟩
 ·have Hr:Hid (dueB t=(t.cls==1)):=by show _=_;simp [dueB,hb]
  go_wp2
  go_ret
  exact ⟨by rw [Hr.out];rfl,K1⟩
set_option maxHeartbeats 2000000 in
theorem qfZ (t:Tsk) (w:World) :
  Calls Tryz.prog 206 #[tk t] w fun e w'=>e = .returned (tk (qcp t)) /\ Keeps w w':=by
 go_enter Tryz.func206,Tryz.ntmps206
 go_wp2_with fail
 refine (qdZ t _).mono ?_
 rintro e w1 ⟨rfl,k1⟩
 have B1:=((Blk.new w (tc t) 43).alloc (.cells (tc Tsk.zero) 43)).keeps k1
 have B2:=(Blk.new (w.alloc (.cells (tc t) 43)) (tc Tsk.zero) 43).keeps k1
 have K1:Hid (Keeps w w1):=(((Keeps.refl w).alloc _).alloc _).trans k1
 simp only [World.size_alloc] at B2
 have R:Hid (Blk w1 (w.heap.size+1) (tc Tsk.zero)):=B2
 obtain ⟨_,b1,b2⟩:=B1
 obtain ⟨_,c1,c2⟩:=B2
 clear k1
 cases hd:dueB t
 ·have Hn:Hid (qcp t=t):=by show _=_;simp [qcp,qer,hd]
  go_wp2
  have D:=R.out.putC (tc (t)).toList rfl
  have K:=Keeps.putC (b:=w.heap.size+1) (by omega) (tc (t)).toList 0 K1.out
  change bodyPost _ _ _ _ _ (putC w1 (w.heap.size+1) 0 (tc (t)).toList)
  generalize putC w1 (w.heap.size+1) 0 (tc (t)).toList=X at D K ⊢
  exact bodyPost_ret (v:=tk (t)) (by simp [results,Tryz.results206,go_sem,D.cells]) rfl ⟨by rw [Hn.out],K⟩
 ·have H:=(qeZ t).1 hd
  obtain ⟨p0,p1⟩:=H.p
  obtain ⟨q0,q1⟩:=H.q
  obtain ⟨l0,l1⟩:=H.left
  clear H
  cases hl:decide (0 < t.left)
  ·have Hn:Hid (qcp t=t):=by show _=_;simp only [qcp,qer,hl,Bool.and_false,Bool.false_eq_true,if_false]
   go_wp2
   have D:=R.out.putC (tc (t)).toList rfl
   have K:=Keeps.putC (b:=w.heap.size+1) (by omega) (tc (t)).toList 0 K1.out
   change bodyPost _ _ _ _ _ (putC w1 (w.heap.size+1) 0 (tc (t)).toList)
   generalize putC w1 (w.heap.size+1) 0 (tc (t)).toList=X at D K ⊢
   exact bodyPost_ret (v:=tk (t)) (by simp [results,Tryz.results206,go_sem,D.cells]) rfl ⟨by rw [Hn.out],K⟩
  ·have Hn:Hid (qcp t={ t with left:=t.left - 1 }):=by show _=_;simp only [qcp,qer,hl,hd,Bool.and_true,if_true]
   go_wp2
   have D:=(R.out.far (c:=w.heap.size) (o:=7) (by omega) (.int .i64 (t.left - 1))).putC (tc ({ t with left:=t.left - 1 })).toList rfl
   have K:=Keeps.putC (b:=w.heap.size+1) (by omega) (tc ({ t with left:=t.left - 1 })).toList 0 (K1.out.setCell (p:=⟨w.heap.size,7,none⟩) (Nat.le_refl _) (.int .i64 (t.left - 1)))
   change bodyPost _ _ _ _ _ (putC (w1.setCell ⟨w.heap.size,7,none⟩ (.int .i64 (t.left - 1))) (w.heap.size+1) 0 (tc ({ t with left:=t.left - 1 })).toList)
   generalize putC (w1.setCell ⟨w.heap.size,7,none⟩ (.int .i64 (t.left - 1))) (w.heap.size+1) 0 (tc ({ t with left:=t.left - 1 })).toList=X at D K ⊢
   exact bodyPost_ret (v:=tk ({ t with left:=t.left - 1 })) (by simp [results,Tryz.results206,go_sem,D.cells]) rfl ⟨by rw [Hn.out],K⟩
set_option maxHeartbeats 2000000 in
theorem qiJ (a b:Tsk) (w:World) :
  Calls Tryz.prog 207 #[tk a,tk b] w fun e w'=>e = .returned (.bool (qbD a b)) /\ Keeps w w':=by
 go_enter Tryz.func207,Tryz.ntmps207
 go_wp2_with fail
 have kW:Keeps w ((w.alloc (.cells (tc a) 43)).alloc (.cells (tc b) 43)):=((Keeps.refl w).alloc _).alloc _
 have r1:∀ w',Keeps ((w.alloc (.cells (tc a) 43)).alloc (.cells (tc b) 43)) w'->∀ k,w'.cell? ⟨w.heap.size,k,none⟩=(tc a)[k]?:=fun w' h=>(((Blk.new w (tc a) 43).alloc _).keeps h).cells
 have r2:∀ w',Keeps ((w.alloc (.cells (tc a) 43)).alloc (.cells (tc b) 43)) w'->∀ k,w'.cell? ⟨w.heap.size+1,k,none⟩=(tc b)[k]?:=fun w' h=>by
  have:=(Blk.new (w.alloc (.cells (tc a) 43)) (tc b) 43).keeps h
  simp only [World.size_alloc] at this
  exact this.cells
 generalize (w.alloc (.cells (tc a) 43)).alloc (.cells (tc b) 43)=W at *
 refine (qdZ a _).mono ?_
 rintro e w1 ⟨rfl,k1⟩
 cases ha:dueB a
 ·have Hr:Hid (qbD a b=false):=by show _=_;simp [qbD,ha]
  go_wp2
  go_ret
  exact ⟨by rw [Hr.out];rfl,kW.trans k1⟩
 ·go_wp2_with fail
  refine (qdZ b _).mono ?_
  rintro e w2 ⟨rfl,k2⟩
  have K2:=k1.trans k2
  cases hb:dueB b
  ·have Hr:Hid (qbD a b=false):=by show _=_;simp [qbD,hb]
   go_wp2
   go_ret
   exact ⟨by rw [Hr.out];rfl,kW.trans K2⟩
  ·cases h1:decide (a.due < b.due)
   ·cases h2:(a.due==b.due)
    ·have Hr:Hid (qbD a b=false):=by show _=_;simp only [qbD,h1,h2,Bool.false_and,Bool.or_false,Bool.and_false]
     go_wp2
     go_ret
     exact ⟨by rw [Hr.out];rfl,kW.trans K2⟩
    ·have Hr:Hid (qbD a b=decide (a.no < b.no)):=by show _=_;simp only [qbD,ha,hb,h1,h2,Bool.true_and,Bool.false_or]
     go_wp2
     go_ret
     exact ⟨by rw [Hr.out];rfl,kW.trans K2⟩
   ·have Hr:Hid (qbD a b=true):=by show _=_;simp only [qbD,ha,hb,h1,Bool.true_or,Bool.and_true]
    go_wp2
    go_ret
    exact ⟨by rw [Hr.out];rfl,kW.trans K2⟩
end Go.Proofs.YteagpjlgjfaclaaGreatDoor
