/-
  The program's task by its parts: the head that all classes
  Picking: contracts of the model's Executor, Able and CanTur
  Picking: contracts of the model's Executor, Able, CanTurn,
-/
import Derived.Test.YteagpjlgjfaclaaGreatDoorTaskSpec
import Derived.Test.YteagpjlgjfaclaaGreatDoorFrame
import Derived.Test.YteagpjlgjfaclaaGreatDoorFixSpec
import Derived.Test.YteagpjlgjfaclaaGreatDoorPickSpec
namespace Go.Proofs.YteagpjlgjfaclaaGreatDoor
set_option maxRecDepth 100000
open Go.RowKit
abbrev hc (t:Tsk):Array Value:=#[.int .i64 t.no,.int .i64 t.cls,.int .i64 t.cpu,.int .i64 t.st,.bool t.idle]
abbrev dnc (t:Tsk):Array Value:=#[.int .i64 t.q,.int .i64 t.p,.int .i64 t.left,.int .i64 t.due]
abbrev fnc (t:Tsk):Array Value:=#[.int .i64 t.prio,.int .i64 t.round,.int .i64 t.left,.int .i64 t.seq]
abbrev rnc (t:Tsk):Array Value:=#[.int .i64 t.nice,.int .i64 t.v]
def Tsk.bare (t:Tsk):Tsk:=⟨t.no,t.cls,t.cpu,t.st,t.idle,0,0,0,0,0,0,0,0,0⟩
def qaM (t:Tsk):Bool:=inB t.no 1 1000&&inB t.cpu 0 3&&(t.st==1||t.st==2)
def qbR (t:Tsk):Bool:=okB t.q t.p&&inB t.left 0 t.q&&inB t.due 0 100040
def qcF (t:Tsk):Bool:=if t.round==0 then t.left==0 else inB t.left 1 t.round
def qbt (t:Tsk):Bool:=inB t.prio 1 20&&inB t.round 0 10&&qcF t&&inB t.seq 0 1000000
def qb9 (t:Tsk):Bool:=inB t.nice (-4) 4&&inB t.v 0 100000000
theorem qe4 (t:Tsk) (w:World) :
  Calls Tryz.prog 93 #[tk t] w fun e w'=>e = .returned (.agg (hc t)) /\ Keeps w w':=by
 go_enter Tryz.func93,Tryz.ntmps93
 go_wp2
 exact bodyPost_ret (v := .agg (hc t)) (by simp [results,Tryz.results93,go_sem]) rfl ⟨rfl,by repeat (first | exact Keeps.refl _ | refine Keeps.alloc ?_ _ | refine Keeps.drewN ?_ _ | refine Keeps.setCell ?_ (by simp [go_sem]) _)⟩
theorem qe5 (no cls cpu:Int) (w:World) :
  Calls Tryz.prog 189 #[.int .i64 no,.int .i64 cls,.int .i64 cpu] w fun e w'=>e = .returned (.agg #[.int .i64 no,.int .i64 cls,.int .i64 cpu,.int .i64 1,.bool false]) /\ Keeps w w':=by
 go_enter Tryz.func189,Tryz.ntmps189
 go_wp2
 exact bodyPost_ret (v := .agg #[.int .i64 no,.int .i64 cls,.int .i64 cpu,.int .i64 1,.bool false]) (by simp [results,Tryz.results189,go_sem]) rfl ⟨rfl,by repeat (first | exact Keeps.refl _ | refine Keeps.alloc ?_ _ | refine Keeps.drewN ?_ _ | refine Keeps.setCell ?_ (by simp [go_sem]) _)⟩
theorem qe6 (t:Tsk) (w:World) :
  Calls Tryz.prog 157 #[.agg (hc t)] w fun e w'=>e = .returned (tk t.bare) /\ Keeps w w':=by
 go_enter Tryz.func157,Tryz.ntmps157
 go_wp2
 exact bodyPost_ret (v:=tk t.bare) (by simp [results,Tryz.results157,go_sem,Tsk.bare]) rfl ⟨rfl,by repeat (first | exact Keeps.refl _ | refine Keeps.alloc ?_ _ | refine Keeps.drewN ?_ _ | refine Keeps.setCell ?_ (by simp [go_sem]) _)⟩
theorem qbo (t:Tsk) (w:World) :
  Calls Tryz.prog 113 #[.agg (hc t)] w fun e w'=>e = .returned (.bool (qaM t)) /\ Keeps w w':=by
 cases b1:inB t.no 1 1000
 ·have Hr:Hid (qaM t=false):=by show _=_;simp [qaM,b1]
  go_enter Tryz.func113,Tryz.ntmps113
  go_wp2_with (go_at_call 105;refine (qaN _ _ _ _).mono ?_;rintro e w' ⟨rfl,rfl⟩)
  go_ret
  exact ⟨by rw [Hr.out];rfl,by repeat (first | exact Keeps.refl _ | refine Keeps.alloc ?_ _ | refine Keeps.drewN ?_ _)⟩
 ·cases b2:inB t.cpu 0 3
  ·have Hr:Hid (qaM t=false):=by show _=_;simp [qaM,b2]
   go_enter Tryz.func113,Tryz.ntmps113
   go_wp2_with (go_at_call 105;refine (qaN _ _ _ _).mono ?_;rintro e w' ⟨rfl,rfl⟩)
   go_ret
   exact ⟨by rw [Hr.out];rfl,by repeat (first | exact Keeps.refl _ | refine Keeps.alloc ?_ _ | refine Keeps.drewN ?_ _)⟩
  ·cases b3:(t.st==1)
   ·have Hr:Hid (qaM t=(t.st==2)):=by show _=_;simp only [qaM,b1,b2,b3,Bool.true_and,Bool.false_or]
    go_enter Tryz.func113,Tryz.ntmps113
    go_wp2_with (go_at_call 105;refine (qaN _ _ _ _).mono ?_;rintro e w' ⟨rfl,rfl⟩)
    go_ret
    exact ⟨by rw [Hr.out];rfl,by repeat (first | exact Keeps.refl _ | refine Keeps.alloc ?_ _ | refine Keeps.drewN ?_ _)⟩
   ·have Hr:Hid (qaM t=true):=by show _=_;simp only [qaM,b1,b2,b3,Bool.true_and,Bool.true_or]
    go_enter Tryz.func113,Tryz.ntmps113
    go_wp2_with (go_at_call 105;refine (qaN _ _ _ _).mono ?_;rintro e w' ⟨rfl,rfl⟩)
    go_ret
    exact ⟨by rw [Hr.out];rfl,by repeat (first | exact Keeps.refl _ | refine Keeps.alloc ?_ _ | refine Keeps.drewN ?_ _)⟩
theorem qgl (t:Tsk) (w:World) :
  Calls Tryz.prog 158 #[.agg (fnc t)] w fun e w'=>e = .returned (.bool (qcF t)) /\ Keeps w w':=by
 cases b1:(t.round==0)
 ·have Hr:Hid (qcF t=inB t.left 1 t.round):=by show _=_;simp [qcF,b1]
  go_enter Tryz.func158,Tryz.ntmps158
  go_wp2_with (go_at_call 105;refine (qaN _ _ _ _).mono ?_;rintro e w' ⟨rfl,rfl⟩)
  go_ret
  exact ⟨by rw [Hr.out];rfl,by repeat (first | exact Keeps.refl _ | refine Keeps.alloc ?_ _ | refine Keeps.drewN ?_ _)⟩
 ·have Hr:Hid (qcF t=(t.left==0)):=by show _=_;simp only [qcF,b1,if_true]
  go_enter Tryz.func158,Tryz.ntmps158
  go_wp2
  go_ret
  exact ⟨by rw [Hr.out];rfl,by repeat (first | exact Keeps.refl _ | refine Keeps.alloc ?_ _ | refine Keeps.drewN ?_ _)⟩
set_option maxHeartbeats 1000000 in
theorem qdB (t:Tsk) (w:World) :
  Calls Tryz.prog 114 #[.agg (dnc t)] w fun e w'=>e = .returned (.bool (qbR t)) /\ Keeps w w':=by
 cases b1:okB t.q t.p
 ·have Hr:Hid (qbR t=false):=by show _=_;simp [qbR,b1]
  go_enter Tryz.func114,Tryz.ntmps114
  go_wp2_with (first
   | (go_at_call 105;refine (qaN _ _ _ _).mono ?_;rintro e w' ⟨rfl,rfl⟩)
   | (go_at_call 94;refine (qdR _ _ _).mono ?_;rintro e w' ⟨rfl,rfl⟩))
  go_ret
  exact ⟨by rw [Hr.out];rfl,by repeat (first | exact Keeps.refl _ | refine Keeps.alloc ?_ _ | refine Keeps.drewN ?_ _)⟩
 ·cases b2:inB t.left 0 t.q
  ·have Hr:Hid (qbR t=false):=by show _=_;simp [qbR,b2]
   go_enter Tryz.func114,Tryz.ntmps114
   go_wp2_with (first
    | (go_at_call 105;refine (qaN _ _ _ _).mono ?_;rintro e w' ⟨rfl,rfl⟩)
    | (go_at_call 94;refine (qdR _ _ _).mono ?_;rintro e w' ⟨rfl,rfl⟩))
   go_ret
   exact ⟨by rw [Hr.out];rfl,by repeat (first | exact Keeps.refl _ | refine Keeps.alloc ?_ _ | refine Keeps.drewN ?_ _)⟩
  ·have Hr:Hid (qbR t=inB t.due 0 100040):=by show _=_;simp [qbR,b1,b2]
   go_enter Tryz.func114,Tryz.ntmps114
   go_wp2_with (first
    | (go_at_call 105;refine (qaN _ _ _ _).mono ?_;rintro e w' ⟨rfl,rfl⟩)
    | (go_at_call 94;refine (qdR _ _ _).mono ?_;rintro e w' ⟨rfl,rfl⟩))
   go_ret
   exact ⟨by rw [Hr.out];rfl,by repeat (first | exact Keeps.refl _ | refine Keeps.alloc ?_ _ | refine Keeps.drewN ?_ _)⟩
set_option maxHeartbeats 1000000 in
theorem qdC (t:Tsk) (w:World) :
  Calls Tryz.prog 117 #[.agg (fnc t)] w fun e w'=>e = .returned (.bool (qbt t)) /\ Keeps w w':=by
 have kW:Keeps w (w.alloc (.cells (fnc t) 169)):=(Keeps.refl _).alloc _
 have r1:=blkR w (fnc t) 169
 have K0:=Keeps.refl (w.alloc (.cells (fnc t) 169))
 cases b1:inB t.prio 1 20
 ·have Hr:Hid (qbt t=false):=by show _=_;simp [qbt,b1]
  go_enter Tryz.func117,Tryz.ntmps117
  go_wp2_with (go_at_call 105;refine (qaN _ _ _ _).mono ?_;rintro e w' ⟨rfl,rfl⟩)
  go_ret
  exact ⟨by rw [Hr.out];rfl,by repeat (first | exact Keeps.refl _ | refine Keeps.alloc ?_ _ | refine Keeps.drewN ?_ _)⟩
 ·cases b2:inB t.round 0 10
  ·have Hr:Hid (qbt t=false):=by show _=_;simp [qbt,b2]
   go_enter Tryz.func117,Tryz.ntmps117
   go_wp2_with (go_at_call 105;refine (qaN _ _ _ _).mono ?_;rintro e w' ⟨rfl,rfl⟩)
   go_ret
   exact ⟨by rw [Hr.out];rfl,by repeat (first | exact Keeps.refl _ | refine Keeps.alloc ?_ _ | refine Keeps.drewN ?_ _)⟩
  ·cases b3:qcF t
   ·have Hr:Hid (qbt t=false):=by show _=_;simp [qbt,b3]
    go_enter Tryz.func117,Tryz.ntmps117
    go_wp2_with (first
     | (go_at_call 105;refine (qaN _ _ _ _).mono ?_;rintro e w' ⟨rfl,rfl⟩)
     | (go_at_call 158;refine (qgl t _).mono ?_;rintro e w1 ⟨rfl,k1⟩;rw [b3]))
    go_ret
    exact ⟨by rw [Hr.out];rfl,kW.trans k1⟩
   ·have Hr:Hid (qbt t=inB t.seq 0 1000000):=by show _=_;simp [qbt,b1,b2,b3]
    go_enter Tryz.func117,Tryz.ntmps117
    go_wp2_with (first
     | (go_at_call 105;refine (qaN _ _ _ _).mono ?_;rintro e w' ⟨rfl,rfl⟩)
     | (go_at_call 158;refine (qgl t _).mono ?_;rintro e w1 ⟨rfl,k1⟩;rw [b3]))
    go_ret
    exact ⟨by rw [Hr.out];rfl,kW.trans k1⟩
theorem qdD (t:Tsk) (w:World) :
  Calls Tryz.prog 120 #[.agg (rnc t)] w fun e w'=>e = .returned (.bool (qb9 t)) /\ Keeps w w':=by
 cases b1:inB t.nice (-4) 4
 ·have Hr:Hid (qb9 t=false):=by show _=_;simp [qb9,b1]
  go_enter Tryz.func120,Tryz.ntmps120
  go_wp2_with (go_at_call 159;refine (qg7 _ _).mono ?_;rintro e w' ⟨rfl,rfl⟩)
  go_ret
  exact ⟨by rw [Hr.out];rfl,by repeat (first | exact Keeps.refl _ | refine Keeps.alloc ?_ _ | refine Keeps.drewN ?_ _)⟩
 ·have Hr:Hid (qb9 t=inB t.v 0 100000000):=by show _=_;simp [qb9,b1]
  go_enter Tryz.func120,Tryz.ntmps120
  go_wp2_with (first
   | (go_at_call 159;refine (qg7 _ _).mono ?_;rintro e w' ⟨rfl,rfl⟩)
   | (go_at_call 105;refine (qaN _ _ _ _).mono ?_;rintro e w' ⟨rfl,rfl⟩))
  go_ret
  exact ⟨by rw [Hr.out];rfl,by repeat (first | exact Keeps.refl _ | refine Keeps.alloc ?_ _ | refine Keeps.drewN ?_ _)⟩
end Go.Proofs.YteagpjlgjfaclaaGreatDoor
namespace Go.Proofs.YteagpjlgjfaclaaGreatDoor
set_option maxRecDepth 100000
open Go.RowKit
attribute [local go_sem] Keeps.refl Keeps.alloc Keeps.drew Keeps.drewN
set_option maxHeartbeats 2000000 in
theorem qhj {w:World} {a:Option Addr} {n cap:Nat} {ts:List Tsk} {b:Option Addr} {m cap2:Nat} {ls:List Lk} (T:OnT w a n cap ts) (L:On w b m cap2 ls) (no:Int) :
  Calls Tryz.prog 203 #[.slice a n cap,.slice b m cap2,.int .i64 no] w fun e w'=>e = .returned (.int .i64 (qbB ts ls no)) /\ Keeps w w':=by
 have HT:Hid (OnT w a n cap ts):=T
 have HL:Hid (On w b m cap2 ls):=L
 clear T L
 obtain ⟨C,HC⟩:∃ C,Hid (qcu ls no=C):=⟨_,rfl⟩
 have hp:Hid (0 < C.length):=by show _ < _;rw [<- HC.out];exact qhf ls no
 have hle:Hid (C.length <= m+2):=by show _ <= _;rw [<- HC.out];have:=qg4 ls (ls.length+1) no;have:=HL.out.len;unfold qcu;omega
 have hm:Hid (m <= 2097152):=by show _ <= _;rw [<- HL.out.len];have:=qc5 ls;have:=HL.out.size;omega
 have hE:Hid (qbB ts ls no=if C.all (qak ts) then qds C else 0):=by show _=_;unfold qbB;rw [HC.out]
 go_enter Tryz.func203,Tryz.ntmps203
 go_wp2_with fail
 refine (HL.out.sChain no (Keeps.refl _)).mono ?_
 rintro e w1 ⟨v,rfl,o1,k1⟩
 have o1':OwnN w1 w.heap.size v C:=by rw [<- HC.out];exact o1
 clear o1
 obtain ⟨bc,cc,rfl,hqc,rc⟩:=OwnN.cells o1' hp.out
 obtain ⟨q,Hq⟩:∃ q,Hid (C.length=q):=⟨_,rfl⟩
 rw [Hq.out] at hqc ⊢
 have hq0:0 < q:=by rw [<- Hq.out];exact hp.out
 have hq1:q <= 4000000:=by rw [<- Hq.out];have:=hle.out;have:=hm.out;omega
 have RC:Hid (∀ (k:Nat) (x:Int),C[k]?=some x->∀ w',Keeps w1 w'->w'.cell? ⟨bc,k,none⟩=some (.int .i64 x)):=rc
 have K1:Hid (Keeps w w1):=k1
 clear o1' rc k1
 go_wp2
 go_loopw [9] (fun i wr=>∃ k:Nat,k <= q /\ i = .int .i64 k /\ Keeps w1 wr /\ Hid (∀ j x,j < k->C[j]?=some x->qak ts x=true)) (fun i _=>q - (intOf i).toNat)
 case atStart=>exact ⟨0,Nat.zero_le _,rfl,Keeps.refl _,fun j x hj=>by omega⟩
 case round =>
  obtain ⟨k,hk,rfl,hK,H⟩:=hrel
  by_cases hlt:k < q
  ·have hlt':(k:Int) < (q:Int):=by omega
   obtain ⟨x,hx⟩:=qal (xs:=C) (k:=k) (by rw [Hq.out];exact hlt)
   have r0:∀ w',Keeps w1 w'->w'.cell? ⟨bc,k,none⟩=some (.int .i64 x):=RC.out k x hx
   have Hx:Hid (C[k]?=some x):=hx
   clear hx
   obtain ⟨z,Hz⟩:∃ z,Hid (qau ts x=z):=⟨_,rfl⟩
   cases hn:decide (z < 0)
   ·have hth:qak ts x=true:=by unfold qak;rw [Hz.out,hn];rfl
    go_wp2_with (go_at_call 71;refine (HT.out.sTaskAt x Hz.out (K1.out.trans hK)).mono ?_;rintro e w2 ⟨rfl,k2⟩)
    exact ⟨⟨k+1,by omega,by go_num,hK.trans k2,fun j y hj hy=>by
     by_cases e:j=k
     ·subst e;rw [Hx.out] at hy;cases hy;exact hth
     ·exact H.out j y (by omega) hy⟩,by simp only [intOf];omega⟩
   ·have hth:qak ts x=false:=by unfold qak;rw [Hz.out,hn];rfl
    have Hr:Hid (qbB ts ls no=0):=by
     show _=_
     rw [hE.out,if_neg]
     rw [List.all_eq_true]
     intro h
     have:=h x (List.mem_of_getElem? Hx.out)
     rw [hth] at this
     cases this
    go_wp2_with (go_at_call 71;refine (HT.out.sTaskAt x Hz.out (K1.out.trans hK)).mono ?_;rintro e w2 ⟨rfl,k2⟩)
    go_ret
    exact ⟨by rw [Hr.out];rfl,K1.out.trans (hK.trans k2)⟩
  ·have Hr:Hid (qbB ts ls no=qds C):=by
    show _=_
    rw [hE.out,if_pos]
    rw [List.all_eq_true]
    intro x hx
    obtain ⟨j,hj,rfl⟩:=List.mem_iff_getElem.1 hx
    exact H.out j _ (by rw [Hq.out] at hj;omega) (List.getElem?_eq_getElem hj)
   obtain ⟨q1,Hq1⟩:∃ q1:Nat,Hid (q=q1+1):=⟨q - 1,by show _=_;omega⟩
   have eq1:IntKind.i64.wrap ((q:Int) - 1)=(q1:Int):=by rw [Go.IntWalk.i64_in _ (by omega),Hq1.out];omega
   have hqq:q1 < q:=by rw [Hq1.out];omega
   have hqq':(q1:Int) < (q:Int):=by omega
   have r0:∀ w',Keeps w1 w'->w'.cell? ⟨bc,q1,none⟩=some (.int .i64 (qds C)):=RC.out q1 _ (by have:=qhg hp.out;rw [Hq.out,Hq1.out] at this;simpa using this)
   go_wp2
   go_ret
   exact ⟨by rw [Hr.out];rfl,K1.out.trans hK⟩
structure Two (w:World) (a:Option Addr) (n cap:Nat) (ts:List Tsk) (b:Option Addr) (m cap2:Nat) (ls:List Lk):Prop where
 t:OnT w a n cap ts
 l:On w b m cap2 ls
theorem Two.keeps {w w':World} {a:Option Addr} {n cap:Nat} {ts:List Tsk} {b:Option Addr} {m cap2:Nat} {ls:List Lk} (h:Two w a n cap ts b m cap2 ls) (k:Keeps w w'):Two w' a n cap ts b m cap2 ls:=⟨h.t.keeps k,h.l.keeps k⟩
theorem Two.exec {w w':World} {a:Option Addr} {n cap:Nat} {ts:List Tsk} {b:Option Addr} {m cap2:Nat} {ls:List Lk} (h:Two w a n cap ts b m cap2 ls) (no:Int) {z:Int} (hz:qbB ts ls no=z) (k:Keeps w w') :
  Calls Tryz.prog 203 #[.slice a n cap,.slice b m cap2,.int .i64 no] w' fun e w''=>e = .returned (.int .i64 z) /\ Keeps w' w'':=by
 have:=qhj (h.keeps k).t (h.keeps k).l no
 rw [hz] at this
 exact this
theorem OnT.there {w:World} {a:Option Addr} {n cap:Nat} {ts:List Tsk} (h:OnT w a n cap ts) {x:Int} (hx:qak ts x=true):∃ (k:Nat) (b off:Nat),k < n /\ a=some ⟨b,off,none⟩ /\ qau ts x=(k:Int) /\ ts[k]?=some (tAt ts x) /\ (tAt ts x).no=x /\ (∀ w',Keeps w w'->w'.cell? ⟨b,off+k*14,none⟩=some (.int .i64 (tAt ts x).no)) /\ ∀ w',Keeps w w'->∀ j,j < 14->w'.cell? ⟨b,off+k*14+j,none⟩=(tc (tAt ts x))[j]?:=by
 obtain ⟨k,t,e,ht,hno⟩:=qda.1 hx
 have e2:=qdb e ht
 obtain ⟨b,off,rfl,r0,r1⟩:=h.lies.at ht (by omega)
 rw [e2]
 exact ⟨k,b,off,by rw [<- h.len];exact qaw ht,rfl,e,ht,hno,r0,r1⟩
set_option maxHeartbeats 2000000 in
theorem qhk {w:World} {a:Option Addr} {n cap:Nat} {ts:List Tsk} {b:Option Addr} {m cap2:Nat} {ls:List Lk} (h:Two w a n cap ts b m cap2 ls) (no:Int) :
  Calls Tryz.prog 199 #[.slice a n cap,.slice b m cap2,.int .i64 no] w fun e w'=>e = .returned (.bool (qbV ts ls no)) /\ Keeps w w':=by
 have H:Hid (Two w a n cap ts b m cap2 ls):=h
 clear h
 obtain ⟨x,Hx⟩:∃ x,Hid (qbB ts ls no=x):=⟨_,rfl⟩
 have Hr:Hid (qbV ts ls no=(x != 0&&((tAt ts no).st==1&&(tAt ts x).st==1))):=by show _=_;unfold qbV;rw [Hx.out]
 cases hx:(x != 0)
 ·have Hr2:Hid (qbV ts ls no=false):=by show _=_;rw [Hr.out,hx];rfl
  go_enter Tryz.func199,Tryz.ntmps199
  go_wp2_with (go_at_call 203;refine (H.out.exec no Hx.out (Keeps.refl _)).mono ?_;rintro e w1 ⟨rfl,k1⟩)
  go_ret
  exact ⟨by rw [Hr2.out];rfl,k1⟩
 ·have th:=qhh (ts:=ts) (ls:=ls) (no:=no) (by rw [Hx.out];exact hx)
  rw [Hx.out] at th
  obtain ⟨k,b1,o1,hk,e,Hk,-,-,-,r1⟩:=H.out.t.there th.2.2.1
  subst e
  obtain ⟨j,b2,o2,hj,e,Hj,-,-,-,r2⟩:=H.out.t.there th.2.2.2
  simp only [Option.some.injEq,Addr.mk.injEq] at e
  obtain ⟨rfl,rfl,-⟩:=e
  have HK:Hid (qau ts no=(k:Int)):=Hk
  have HJ:Hid (qau ts x=(j:Int)):=Hj
  clear th Hk Hj
  have hk':(k:Int) < (n:Int):=by omega
  have hj':(j:Int) < (n:Int):=by omega
  cases h1:((tAt ts no).st==1)
  ·have Hr2:Hid (qbV ts ls no=false):=by show _=_;rw [Hr.out,h1,Bool.false_and,Bool.and_false]
   go_enter Tryz.func199,Tryz.ntmps199
   go_wp2_with (first
    | (go_at_call 203;refine (H.out.exec no Hx.out (Keeps.refl _)).mono ?_;rintro e w1 ⟨rfl,k1⟩)
    | (go_at_call 71;refine (H.out.t.sTaskAt no HK.out k1).mono ?_;rintro e w2 ⟨rfl,k2⟩;have K2:=k1.trans k2))
   go_ret
   exact ⟨by rw [Hr2.out];rfl,K2⟩
  ·have Hr2:Hid (qbV ts ls no=((tAt ts x).st==1)):=by show _=_;rw [Hr.out,hx,h1];rfl
   go_enter Tryz.func199,Tryz.ntmps199
   go_wp2_with (first
    | (go_at_call 203;refine (H.out.exec no Hx.out (Keeps.refl _)).mono ?_;rintro e w1 ⟨rfl,k1⟩)
    | (go_at_call 71;have k0:=k1;clear k1;refine (H.out.t.sTaskAt no HK.out k0).mono ?_;rintro e w2 ⟨rfl,k2⟩;have K2:=k0.trans k2)
    | (go_at_call 71;refine (H.out.t.sTaskAt x HJ.out K2).mono ?_;rintro e w3 ⟨rfl,k3⟩;have K3:=K2.trans k3))
   go_ret
   exact ⟨by rw [Hr2.out];rfl,K3⟩
theorem Two.able {w w':World} {a:Option Addr} {n cap:Nat} {ts:List Tsk} {b:Option Addr} {m cap2:Nat} {ls:List Lk} (h:Two w a n cap ts b m cap2 ls) (no:Int) {z:Bool} (hz:qbV ts ls no=z) (k:Keeps w w') :
  Calls Tryz.prog 199 #[.slice a n cap,.slice b m cap2,.int .i64 no] w' fun e w''=>e = .returned (.bool z) /\ Keeps w' w'':=by
 have:=qhk (h.keeps k) no
 rw [hz] at this
 exact this
theorem qlP {ts:List Tsk} {ls:List Lk} {no:Int} (h:qbV ts ls no=true):qak ts no=true /\ qak ts (qbB ts ls no)=true:=by
 unfold qbV at h
 rw [Bool.and_eq_true] at h
 have:=qhh h.1
 exact ⟨this.2.2.1,this.2.2.2⟩
set_option maxHeartbeats 2000000 in
theorem qlQ {w:World} {a:Option Addr} {n cap:Nat} {ts:List Tsk} {b:Option Addr} {m cap2:Nat} {ls:List Lk} (h:Two w a n cap ts b m cap2 ls) (no:Int) :
  Calls Tryz.prog 215 #[.slice a n cap,.slice b m cap2,.int .i64 no] w fun e w'=>e = .returned (.bool (canB ts ls no)) /\ Keeps w w':=by
 have H:Hid (Two w a n cap ts b m cap2 ls):=h
 clear h
 cases h1:qbV ts ls no
 ·have Hr2:Hid (canB ts ls no=false):=by show _=_;unfold canB;rw [h1];rfl
  go_enter Tryz.func215,Tryz.ntmps215
  go_wp2_with (go_at_call 199;refine (H.out.able no h1 (Keeps.refl _)).mono ?_;rintro e w1 ⟨rfl,k1⟩)
  go_ret
  exact ⟨by rw [Hr2.out];rfl,k1⟩
 ·have Hr:Hid (canB ts ls no=mayB (tAt ts no)):=by show _=_;unfold canB;rw [h1];rfl
  obtain ⟨k,b1,o1,hk,rfl,Hk,-,-,r0,r1⟩:=H.out.t.there (qlP h1).1
  have HK:Hid (qau ts no=(k:Int)):=Hk
  clear Hk
  have hk':(k:Int) < (n:Int):=by omega
  generalize tAt ts no=t at *
  cases h2:(t.cls != 1)
  ·have Hr2:Hid (canB ts ls no=decide (0 < t.left)):=by show _=_;rw [Hr.out];unfold mayB;rw [h2];rfl
   go_enter Tryz.func215,Tryz.ntmps215
   go_wp2_with (first
    | (go_at_call 199;refine (H.out.able no h1 (Keeps.refl _)).mono ?_;rintro e w1 ⟨rfl,k1⟩)
    | (go_at_call 71;refine (H.out.t.sTaskAt no HK.out k1).mono ?_;rintro e w2 ⟨rfl,k2⟩;have K2:=k1.trans k2))
   go_ret
   exact ⟨by rw [Hr2.out];rfl,K2.alloc _⟩
  ·have Hr2:Hid (canB ts ls no=true):=by show _=_;rw [Hr.out];unfold mayB;rw [h2];rfl
   go_enter Tryz.func215,Tryz.ntmps215
   go_wp2_with (first
    | (go_at_call 199;refine (H.out.able no h1 (Keeps.refl _)).mono ?_;rintro e w1 ⟨rfl,k1⟩)
    | (go_at_call 71;refine (H.out.t.sTaskAt no HK.out k1).mono ?_;rintro e w2 ⟨rfl,k2⟩;have K2:=k1.trans k2))
   go_ret
   exact ⟨by rw [Hr2.out];rfl,K2.alloc _⟩
theorem Two.can {w w':World} {a:Option Addr} {n cap:Nat} {ts:List Tsk} {b:Option Addr} {m cap2:Nat} {ls:List Lk} (h:Two w a n cap ts b m cap2 ls) (no:Int) {z:Bool} (hz:canB ts ls no=z) (k:Keeps w w') :
  Calls Tryz.prog 215 #[.slice a n cap,.slice b m cap2,.int .i64 no] w' fun e w''=>e = .returned (.bool z) /\ Keeps w' w'':=by
 have:=qlQ (h.keeps k) no
 rw [hz] at this
 exact this
end Go.Proofs.YteagpjlgjfaclaaGreatDoor
namespace Go.Proofs.YteagpjlgjfaclaaGreatDoor
set_option maxRecDepth 100000
open Go.RowKit
attribute [local go_sem] Keeps.refl Keeps.alloc Keeps.drew Keeps.drewN
set_option maxHeartbeats 4000000 in
theorem qlR {w:World} {a:Option Addr} {n cap:Nat} {ts:List Tsk} {b:Option Addr} {m cap2:Nat} {ls:List Lk} (h:Two w a n cap ts b m cap2 ls) (cpu:Int) :
  Calls Tryz.prog 202 #[.slice a n cap,.slice b m cap2,.int .i64 cpu] w fun e w'=>e = .returned (.int .i64 (qcN ts ls cpu)) /\ Keeps w w':=by
 have H:Hid (Two w a n cap ts b m cap2 ls):=h
 have Hn:Hid (ts.length=n):=h.t.len
 have hn:n <= 9223372036854775807:=by rw [<- h.t.len];have:=h.t.small;unfold maxLen at this;omega
 clear h
 obtain ⟨cand,Hc⟩:∃ cand,Hid (qfv ts ls cpu=cand):=⟨_,rfl⟩
 have HP:Hid (qcN ts ls cpu=topN ts cand n):=by show _=_;unfold qcN;rw [Hc.out,Hn.out]
 go_enter Tryz.func202,Tryz.ntmps202
 go_wp2
 go_loopw [7,8] (fun at' i wr=>∃ (k:Nat) (A:Int),k <= n /\ i = .int .i64 k /\ at' = .int .i64 A /\ Hid (topN ts cand k=A) /\ Keeps w wr) (fun _ i _=>n - (intOf i).toNat)
 case atStart=>exact ⟨0,-1,Nat.zero_le _,rfl,rfl,rfl,Keeps.refl _⟩
 case round =>
 obtain ⟨k,A,hk,rfl,rfl,HA,hK⟩:=hrel
 by_cases hlt:k < n
 ·have hlt':(k:Int) < (n:Int):=by omega
  obtain ⟨t,ht⟩:=qbP (xs:=ts) (k:=k) (by rw [Hn.out];exact hlt)
  have hAr : -1 <= A /\ A < k:=by rw [<- HA.out];exact qfw ts cand k
  have HS:Hid (topN ts cand (k+1)=if (t.cpu==cpu&&canB ts ls t.no)&&(decide (A < 0)||befB t (ts.getD A.toNat Tsk.zero)) then (k:Int) else A):=by
   show _=_
   simp only [topN,topS]
   rw [HA.out,qdt ht,<- Hc.out]
   rfl
  obtain ⟨ba,off,rfl,all⟩:=H.out.t.all (by omega)
  have AL:Hid _:=all
  obtain ⟨r0,r1⟩:=all k t ht
  have Ht:Hid (ts[k]?=some t):=ht
  clear all ht
  cases c1:(t.cpu==cpu)
  ·have HT:Hid (topN ts cand (k+1)=A):=by show _=_;rw [HS.out,c1];rfl
   go_wp2_with fail
   refine wp_region_held_drew (S:=(fun w'=>Keeps w w')) (by kernel_rfl) ?_ (fun hHeld => ?_)
   ·exact Keeps.drew (by assumption)
   refine Plan.go [0,1,2,3,4,5,6,7] ?_
   iterate 8 (refine qac (by simp only [qab];rfl) (by kernel_rfl) (by exact fun _ _ _ h=>h) (by rfl) (by assumption) (fun w _=>by go_simp;try (with_reducible rfl)) ?_;try simp only [qaa])
   refine Plan.nil ?_
   refine Plan.go [8,9,10,11,12,13,14,15] ?_
   iterate 8 (refine qaA (by simp only [qab];rfl) (by kernel_rfl) (by exact fun _ _ _ h=>h) (by rfl) (by assumption) ?_;try simp only [qaa])
   refine Plan.nil ?_
   refine Plan.go [16,17] ?_
   iterate 2 (refine qac (by simp only [qab];rfl) (by kernel_rfl) (by exact fun _ _ _ h=>h) (by rfl) (by assumption) (fun w _=>by go_simp;try (with_reducible rfl)) ?_;try simp only [qaa])
   refine Plan.nil ?_
   refine Plan.go [18,19,20,21,22,23,24,25,26,27,28,29,30] ?_
   iterate 13 (refine qaA (by simp only [qab];rfl) (by kernel_rfl) (by exact fun _ _ _ h=>h) (by rfl) (by assumption) ?_;try simp only [qaa])
   refine Plan.nil ?_
   refine qar 31 (v := ?_) (by simp only [qab];rfl) (by kernel_rfl) (by exact fun _ _ _ h=>h) (by rfl) (by assumption) ?_ ?_
   rotate_left
   ·(intro w _;go_simp;try (with_reducible rfl))
   try simp only [qaa]
   refine wpAnyH_done (by kernel_rfl) ?_ _
   have K9:Keeps w wr.drew:=hK.drew
   go_wp2
   exact ⟨⟨k+1,_,by omega,by go_num,rfl,HT,K9⟩,by simp only [intOf];omega⟩
  cases c2:canB ts ls t.no
  ·have HT:Hid (topN ts cand (k+1)=A):=by show _=_;rw [HS.out,c1,c2];rfl
   go_wp2_with fail
   refine wp_region_held_drew (S:=(fun w'=>Keeps w w')) (by kernel_rfl) ?_ (fun hHeld => ?_)
   ·exact Keeps.drew (by assumption)
   refine Plan.go [0,1,2,3,4,5,6,7,8,9,10,11,12,13,14] ?_
   iterate 15 (refine qac (by simp only [qab];rfl) (by kernel_rfl) (by exact fun _ _ _ h=>h) (by rfl) (by assumption) (fun w _=>by go_simp;try (with_reducible rfl)) ?_;try simp only [qaa])
   refine Plan.nil ?_
   refine qad 15 (by kernel_rfl) (by simp only [qab];rfl) (fun K hK => ?_)
   go_simp
   (go_at_call 215;refine (H.out.can t.no c2 (by assumption)).mono ?_;rintro e w5 ⟨rfl,hb5⟩)
   try go_wp2_with fail
   refine hK.out _ _ ?_ (fun hHeld => ?_)
   ·exact Keeps.trans (by assumption) (by assumption)
   clear hK K
   try simp only [qaa]
   refine Plan.go [16,17] ?_
   iterate 2 (refine qac (by simp only [qab];rfl) (by kernel_rfl) (by exact fun _ _ _ h=>h) (by rfl) (by assumption) (fun w _=>by go_simp;try (with_reducible rfl)) ?_;try simp only [qaa])
   refine Plan.nil ?_
   refine Plan.go [18,19,20,21,22,23,24,25,26,27,28,29,30] ?_
   iterate 13 (refine qaA (by simp only [qab];rfl) (by kernel_rfl) (by exact fun _ _ _ h=>h) (by rfl) (by assumption) ?_;try simp only [qaa])
   refine Plan.nil ?_
   refine qar 31 (v := ?_) (by simp only [qab];rfl) (by kernel_rfl) (by exact fun _ _ _ h=>h) (by rfl) (by assumption) ?_ ?_
   rotate_left
   ·(intro w _;go_simp;try (with_reducible rfl))
   try simp only [qaa]
   refine wpAnyH_done (by kernel_rfl) ?_ _
   have K9:Keeps w w5:=by assumption
   go_wp2
   exact ⟨⟨k+1,_,by omega,by go_num,rfl,HT,K9⟩,by simp only [intOf];omega⟩
  cases c3:decide (A < 0)
  rotate_left
  ·have HT:Hid (topN ts cand (k+1)=(k:Int)):=by show _=_;rw [HS.out,c1,c2,c3];rfl
   go_wp2_with fail
   refine wp_region_held_drew (S:=(fun w'=>Keeps w w')) (by kernel_rfl) ?_ (fun hHeld => ?_)
   ·exact Keeps.drew (by assumption)
   refine Plan.go [0,1,2,3,4,5,6,7,8,9,10,11,12,13,14] ?_
   iterate 15 (refine qac (by simp only [qab];rfl) (by kernel_rfl) (by exact fun _ _ _ h=>h) (by rfl) (by assumption) (fun w _=>by go_simp;try (with_reducible rfl)) ?_;try simp only [qaa])
   refine Plan.nil ?_
   refine qad 15 (by kernel_rfl) (by simp only [qab];rfl) (fun K hK => ?_)
   go_simp
   (go_at_call 215;refine (H.out.can t.no c2 (by assumption)).mono ?_;rintro e w5 ⟨rfl,hb5⟩)
   try go_wp2_with fail
   refine hK.out _ _ ?_ (fun hHeld => ?_)
   ·exact Keeps.trans (by assumption) (by assumption)
   clear hK K
   try simp only [qaa]
   refine Plan.go [16,17,18,19,20] ?_
   iterate 5 (refine qac (by simp only [qab];rfl) (by kernel_rfl) (by exact fun _ _ _ h=>h) (by rfl) (by assumption) (fun w _=>by go_simp;try (with_reducible rfl)) ?_;try simp only [qaa])
   refine Plan.nil ?_
   refine Plan.go [21,22,23,24,25,26,27,28,29] ?_
   iterate 9 (refine qaA (by simp only [qab];rfl) (by kernel_rfl) (by exact fun _ _ _ h=>h) (by rfl) (by assumption) ?_;try simp only [qaa])
   refine Plan.nil ?_
   refine Plan.go [30,31] ?_
   iterate 2 (refine qac (by simp only [qab];rfl) (by kernel_rfl) (by exact fun _ _ _ h=>h) (by rfl) (by assumption) (fun w _=>by go_simp;try (with_reducible rfl)) ?_;try simp only [qaa])
   refine Plan.nil ?_
   refine wpAnyH_done (by kernel_rfl) ?_ _
   have K9:Keeps w w5:=by assumption
   go_wp2
   exact ⟨⟨k+1,_,by omega,by go_num,rfl,HT,K9⟩,by simp only [intOf];omega⟩
  have hA0:0 <= A:=by simpa using c3
  obtain ⟨j,rfl⟩:=Int.eq_ofNat_of_zero_le hA0
  have hj:j < n:=by omega
  have hj':(j:Int) < (n:Int):=by omega
  obtain ⟨u,hu⟩:=qbP (xs:=ts) (k:=j) (by rw [Hn.out];exact hj)
  obtain ⟨r2,r3⟩:=AL.out j u hu
  have eu:ts.getD (j:Int).toNat Tsk.zero=u:=by rw [Int.toNat_natCast];exact qdt hu
  rw [eu] at HS
  clear hu eu
  cases c4:befB t u
  ·have HT:Hid (topN ts cand (k+1)=(j:Int)):=by show _=_;rw [HS.out,c1,c2,c3,c4];rfl
   go_wp2_with fail
   refine wp_region_held_drew (S:=(fun w'=>Keeps w w')) (by kernel_rfl) ?_ (fun hHeld => ?_)
   ·exact Keeps.drew (by assumption)
   refine Plan.go [0,1,2,3,4,5,6,7,8,9,10,11,12,13,14] ?_
   iterate 15 (refine qac (by simp only [qab];rfl) (by kernel_rfl) (by exact fun _ _ _ h=>h) (by rfl) (by assumption) (fun w _=>by go_simp;try (with_reducible rfl)) ?_;try simp only [qaa])
   refine Plan.nil ?_
   refine qad 15 (by kernel_rfl) (by simp only [qab];rfl) (fun K hK => ?_)
   go_simp
   first
    | (go_at_call 215;refine (H.out.can t.no c2 (by assumption)).mono ?_;rintro e w5 ⟨rfl,hb5⟩)
    | (go_at_call 183;refine (qdc t u _).mono ?_;rintro e w6 ⟨rfl,hb6⟩;rw [c4])
   try go_wp2_with fail
   refine hK.out _ _ ?_ (fun hHeld => ?_)
   ·exact Keeps.trans (by assumption) (by assumption)
   clear hK K
   try simp only [qaa]
   refine Plan.go [16,17,18,19,20,21,22,23,24,25,26,27,28] ?_
   iterate 13 (refine qac (by simp only [qab];rfl) (by kernel_rfl) (by exact fun _ _ _ h=>h) (by rfl) (by assumption) (fun w _=>by go_simp;try (with_reducible rfl)) ?_;try simp only [qaa])
   refine Plan.nil ?_
   refine qad 29 (by kernel_rfl) (by simp only [qab];rfl) (fun K hK => ?_)
   go_simp
   first
    | (go_at_call 215;refine (H.out.can t.no c2 (by assumption)).mono ?_;rintro e w5 ⟨rfl,hb5⟩)
    | (go_at_call 183;refine (qdc t u _).mono ?_;rintro e w6 ⟨rfl,hb6⟩;rw [c4])
   try go_wp2_with fail
   refine hK.out _ _ ?_ (fun hHeld => ?_)
   ·exact Keeps.trans (by assumption) (by assumption)
   clear hK K
   try simp only [qaa]
   refine Plan.go [30,31] ?_
   iterate 2 (refine qac (by simp only [qab];rfl) (by kernel_rfl) (by exact fun _ _ _ h=>h) (by rfl) (by assumption) (fun w _=>by go_simp;try (with_reducible rfl)) ?_;try simp only [qaa])
   refine Plan.nil ?_
   refine wpAnyH_done (by kernel_rfl) ?_ _
   have K9:Keeps w w6:=by assumption
   go_wp2
   exact ⟨⟨k+1,_,by omega,by go_num,rfl,HT,K9⟩,by simp only [intOf];omega⟩
  ·have HT:Hid (topN ts cand (k+1)=(k:Int)):=by show _=_;rw [HS.out,c1,c2,c3,c4];rfl
   go_wp2_with fail
   refine wp_region_held_drew (S:=(fun w'=>Keeps w w')) (by kernel_rfl) ?_ (fun hHeld => ?_)
   ·exact Keeps.drew (by assumption)
   refine Plan.go [0,1,2,3,4,5,6,7,8,9,10,11,12,13,14] ?_
   iterate 15 (refine qac (by simp only [qab];rfl) (by kernel_rfl) (by exact fun _ _ _ h=>h) (by rfl) (by assumption) (fun w _=>by go_simp;try (with_reducible rfl)) ?_;try simp only [qaa])
   refine Plan.nil ?_
   refine qad 15 (by kernel_rfl) (by simp only [qab];rfl) (fun K hK => ?_)
   go_simp
   first
    | (go_at_call 215;refine (H.out.can t.no c2 (by assumption)).mono ?_;rintro e w5 ⟨rfl,hb5⟩)
    | (go_at_call 183;refine (qdc t u _).mono ?_;rintro e w6 ⟨rfl,hb6⟩;rw [c4])
   try go_wp2_with fail
   refine hK.out _ _ ?_ (fun hHeld => ?_)
   ·exact Keeps.trans (by assumption) (by assumption)
   clear hK K
   try simp only [qaa]
   refine Plan.go [16,17,18,19,20,21,22,23,24,25,26,27,28] ?_
   iterate 13 (refine qac (by simp only [qab];rfl) (by kernel_rfl) (by exact fun _ _ _ h=>h) (by rfl) (by assumption) (fun w _=>by go_simp;try (with_reducible rfl)) ?_;try simp only [qaa])
   refine Plan.nil ?_
   refine qad 29 (by kernel_rfl) (by simp only [qab];rfl) (fun K hK => ?_)
   go_simp
   first
    | (go_at_call 215;refine (H.out.can t.no c2 (by assumption)).mono ?_;rintro e w5 ⟨rfl,hb5⟩)
    | (go_at_call 183;refine (qdc t u _).mono ?_;rintro e w6 ⟨rfl,hb6⟩;rw [c4])
   try go_wp2_with fail
   refine hK.out _ _ ?_ (fun hHeld => ?_)
   ·exact Keeps.trans (by assumption) (by assumption)
   clear hK K
   try simp only [qaa]
   refine Plan.go [30,31] ?_
   iterate 2 (refine qac (by simp only [qab];rfl) (by kernel_rfl) (by exact fun _ _ _ h=>h) (by rfl) (by assumption) (fun w _=>by go_simp;try (with_reducible rfl)) ?_;try simp only [qaa])
   refine Plan.nil ?_
   refine wpAnyH_done (by kernel_rfl) ?_ _
   have K9:Keeps w w6:=by assumption
   go_wp2
   exact ⟨⟨k+1,_,by omega,by go_num,rfl,HT,K9⟩,by simp only [intOf];omega⟩
 ·have e:k=n:=by omega
  subst e
  go_wp2
  go_ret
  exact ⟨by rw [HP.out,HA.out];rfl,hK⟩
set_option maxHeartbeats 4000000 in
theorem qlS {w:World} {a:Option Addr} {n cap:Nat} {ts:List Tsk} (h:OnT w a n cap ts) (b:Option Addr) (cap2:Nat) (xs:List Int) (hx:xs.length <= maxLen) (hs:Ns w b xs) :
  Calls Tryz.prog 152 #[.slice a n cap,.slice b xs.length cap2] w fun e w'=>e = .returned (.int .i64 (qcm ts xs)) /\ Keeps w w':=by
 have H:Hid (OnT w a n cap ts):=h
 have Hn:Hid (ts.length=n):=h.len
 have hn:n <= 9223372036854775807:=by rw [<- h.len];have:=h.small;unfold maxLen at this;omega
 clear h
 have HX0:Hid (∀ x w',Keeps w w'->Calls Tryz.prog 147 #[.slice b xs.length cap2,.int .i64 x] w' fun e w''=>e = .returned (.bool (hasB xs x)) /\ Keeps w' w''):=fun x w' k=>qdM b cap2 xs x w' hx (hs.keeps k)
 generalize hq:xs.length=q at HX0
 have Hq:Hid (xs.length=q):=hq
 clear hx hs hq
 cases hb:qav ts
 ·have Hr:Hid (qcm ts xs=0):=by show _=_;simp [qcm,hb]
  go_enter Tryz.func152,Tryz.ntmps152
  go_wp2
  go_loopw [5,6] (fun at' i wr=>i = .int .i64 0 /\ at' = .int .i64 (-1) /\ wr=w) (fun _ _ _=>0)
  case atStart=>exact ⟨rfl,rfl,rfl⟩
  case round =>
  obtain ⟨rfl,rfl,hw⟩:=hrel
  have hw2:=hw.symm
  subst hw2
  clear hw
  by_cases hlt:0 < n
  ·have hlt':(0:Int) < (n:Int):=by omega
   go_wp2_with (go_at_call 28;refine (H.out.sTasksOk hb (Keeps.refl _)).mono ?_;rintro e w1 ⟨rfl,k1⟩)
   go_ret
   exact ⟨by rw [Hr.out];rfl,k1⟩
  ·have hlt':decide ((0:Int) < (n:Int))=false:=by simp;omega
   have hlt2:decide (0 < n)=false:=by simp;omega
   go_wp2
   go_ret
   exact ⟨by rw [Hr.out];rfl,Keeps.refl _⟩
 obtain ⟨cand,Hc⟩:∃ cand,Hid (qhe xs=cand):=⟨_,rfl⟩
 have HP:Hid (qcm ts xs=noAt ts (topN ts cand n)):=by show _=_;unfold qcm;rw [hb,Hc.out,Hn.out];rfl
 go_enter Tryz.func152,Tryz.ntmps152
 go_wp2
 go_loopw [5,6] (fun at' i wr=>∃ (k:Nat) (A:Int),k <= n /\ i = .int .i64 k /\ at' = .int .i64 A /\ Hid (topN ts cand k=A) /\ Keeps w wr) (fun _ i _=>n - (intOf i).toNat)
 case atStart=>exact ⟨0,-1,Nat.zero_le _,rfl,rfl,rfl,Keeps.refl _⟩
 case round =>
 obtain ⟨k,A,hk,rfl,rfl,HA,hK⟩:=hrel
 have hAr : -1 <= A /\ A < k:=by rw [<- HA.out];exact qfw ts cand k
 by_cases hlt:k < n
 ·have hlt':(k:Int) < (n:Int):=by omega
  obtain ⟨t,ht⟩:=qbP (xs:=ts) (k:=k) (by rw [Hn.out];exact hlt)
  have HS:Hid (topN ts cand (k+1)=if hasB xs t.no&&(decide (A < 0)||befB t (ts.getD A.toNat Tsk.zero)) then (k:Int) else A):=by
   show _=_
   simp only [topN,topS]
   rw [HA.out,qdt ht,<- Hc.out]
   rfl
  obtain ⟨ba,off,rfl,all⟩:=H.out.all (by omega)
  have AL:Hid _:=all
  obtain ⟨r0,r1⟩:=all k t ht
  have Ht:Hid (ts[k]?=some t):=ht
  clear all ht
  obtain ⟨cc,Hcc⟩:∃ cc,Hid (hasB xs t.no=cc):=⟨_,rfl⟩
  rw [Hcc.out] at HS
  have HX:Hid (∀ w',Keeps w w'->Calls Tryz.prog 147 #[.slice b q cap2,.int .i64 t.no] w' fun e w''=>e = .returned (.bool cc) /\ Keeps w' w''):=fun w' k=>by rw [<- Hcc.out];exact HX0.out t.no w' k
  go_wp2_with (first
   | (go_at_call 28;refine (H.out.sTasksOk hb hK).mono ?_;rintro e w1 ⟨rfl,k1⟩;have K1:=hK.trans k1)
   | fail)
  clear hK k1
  cases cc
  ·have HT:Hid (topN ts cand (k+1)=A):=by show _=_;rw [HS.out];rfl
   go_wp2_with fail
   refine wp_region_held_drew (S:=(fun w'=>Keeps w w')) (by kernel_rfl) ?_ (fun hHeld => ?_)
   ·exact Keeps.drew (by assumption)
   refine Plan.go [0,1,2,3,4,5] ?_
   iterate 6 (refine qac (by simp only [qab];rfl) (by kernel_rfl) (by exact fun _ _ _ h=>h) (by rfl) (by assumption) (fun w _=>by go_simp;try (with_reducible rfl)) ?_;try simp only [qaa])
   refine Plan.nil ?_
   refine qad 6 (by kernel_rfl) (by simp only [qab];rfl) (fun K hK => ?_)
   go_simp
   (go_at_call 147;refine (HX.out _ (by assumption)).mono ?_;rintro e w5 ⟨rfl,hb5⟩)
   try go_wp2_with fail
   refine hK.out _ _ ?_ (fun hHeld => ?_)
   ·exact Keeps.trans (by assumption) (by assumption)
   clear hK K
   try simp only [qaa]
   refine qar 7 (v := ?_) (by simp only [qab];rfl) (by kernel_rfl) (by exact fun _ _ _ h=>h) (by rfl) (by assumption) ?_ ?_
   rotate_left
   ·(intro w _;go_simp;try (with_reducible rfl))
   try simp only [qaa]
   refine Plan.go [8,9,10,11,12,13,14,15,16,17,18,19,20] ?_
   iterate 13 (refine qaA (by simp only [qab];rfl) (by kernel_rfl) (by exact fun _ _ _ h=>h) (by rfl) (by assumption) ?_;try simp only [qaa])
   refine Plan.nil ?_
   refine qar 21 (v := ?_) (by simp only [qab];rfl) (by kernel_rfl) (by exact fun _ _ _ h=>h) (by rfl) (by assumption) ?_ ?_
   rotate_left
   ·(intro w _;go_simp;try (with_reducible rfl))
   try simp only [qaa]
   refine wpAnyH_done (by kernel_rfl) ?_ _
   have K9:Keeps w w5:=by assumption
   go_wp2
   exact ⟨⟨k+1,_,by omega,by go_num,rfl,HT,K9⟩,by simp only [intOf];omega⟩
  cases c3:decide (A < 0)
  rotate_left
  ·have HT:Hid (topN ts cand (k+1)=(k:Int)):=by show _=_;rw [HS.out,c3];rfl
   go_wp2_with fail
   refine wp_region_held_drew (S:=(fun w'=>Keeps w w')) (by kernel_rfl) ?_ (fun hHeld => ?_)
   ·exact Keeps.drew (by assumption)
   refine Plan.go [0,1,2,3,4,5] ?_
   iterate 6 (refine qac (by simp only [qab];rfl) (by kernel_rfl) (by exact fun _ _ _ h=>h) (by rfl) (by assumption) (fun w _=>by go_simp;try (with_reducible rfl)) ?_;try simp only [qaa])
   refine Plan.nil ?_
   refine qad 6 (by kernel_rfl) (by simp only [qab];rfl) (fun K hK => ?_)
   go_simp
   (go_at_call 147;refine (HX.out _ (by assumption)).mono ?_;rintro e w5 ⟨rfl,hb5⟩)
   try go_wp2_with fail
   refine hK.out _ _ ?_ (fun hHeld => ?_)
   ·exact Keeps.trans (by assumption) (by assumption)
   clear hK K
   try simp only [qaa]
   refine Plan.go [7,8,9,10] ?_
   iterate 4 (refine qac (by simp only [qab];rfl) (by kernel_rfl) (by exact fun _ _ _ h=>h) (by rfl) (by assumption) (fun w _=>by go_simp;try (with_reducible rfl)) ?_;try simp only [qaa])
   refine Plan.nil ?_
   refine Plan.go [11,12,13,14,15,16,17,18,19] ?_
   iterate 9 (refine qaA (by simp only [qab];rfl) (by kernel_rfl) (by exact fun _ _ _ h=>h) (by rfl) (by assumption) ?_;try simp only [qaa])
   refine Plan.nil ?_
   refine Plan.go [20,21] ?_
   iterate 2 (refine qac (by simp only [qab];rfl) (by kernel_rfl) (by exact fun _ _ _ h=>h) (by rfl) (by assumption) (fun w _=>by go_simp;try (with_reducible rfl)) ?_;try simp only [qaa])
   refine Plan.nil ?_
   refine wpAnyH_done (by kernel_rfl) ?_ _
   have K9:Keeps w w5:=by assumption
   go_wp2
   exact ⟨⟨k+1,_,by omega,by go_num,rfl,HT,K9⟩,by simp only [intOf];omega⟩
  have hA0:0 <= A:=by simpa using c3
  obtain ⟨j,rfl⟩:=Int.eq_ofNat_of_zero_le hA0
  have hj:j < n:=by omega
  have hj':(j:Int) < (n:Int):=by omega
  obtain ⟨u,hu⟩:=qbP (xs:=ts) (k:=j) (by rw [Hn.out];exact hj)
  obtain ⟨r2,r3⟩:=AL.out j u hu
  have eu:ts.getD (j:Int).toNat Tsk.zero=u:=by rw [Int.toNat_natCast];exact qdt hu
  rw [eu] at HS
  clear hu eu
  cases c4:befB t u
  ·have HT:Hid (topN ts cand (k+1)=(j:Int)):=by show _=_;rw [HS.out,c3,c4];rfl
   go_wp2_with fail
   refine wp_region_held_drew (S:=(fun w'=>Keeps w w')) (by kernel_rfl) ?_ (fun hHeld => ?_)
   ·exact Keeps.drew (by assumption)
   refine Plan.go [0,1,2,3,4,5] ?_
   iterate 6 (refine qac (by simp only [qab];rfl) (by kernel_rfl) (by exact fun _ _ _ h=>h) (by rfl) (by assumption) (fun w _=>by go_simp;try (with_reducible rfl)) ?_;try simp only [qaa])
   refine Plan.nil ?_
   refine qad 6 (by kernel_rfl) (by simp only [qab];rfl) (fun K hK => ?_)
   go_simp
   first
    | (go_at_call 147;refine (HX.out _ (by assumption)).mono ?_;rintro e w5 ⟨rfl,hb5⟩)
    | (go_at_call 183;refine (qdc t u _).mono ?_;rintro e w6 ⟨rfl,hb6⟩;rw [c4])
   try go_wp2_with fail
   refine hK.out _ _ ?_ (fun hHeld => ?_)
   ·exact Keeps.trans (by assumption) (by assumption)
   clear hK K
   try simp only [qaa]
   refine Plan.go [7,8,9,10,11,12,13,14,15,16,17,18] ?_
   iterate 12 (refine qac (by simp only [qab];rfl) (by kernel_rfl) (by exact fun _ _ _ h=>h) (by rfl) (by assumption) (fun w _=>by go_simp;try (with_reducible rfl)) ?_;try simp only [qaa])
   refine Plan.nil ?_
   refine qad 19 (by kernel_rfl) (by simp only [qab];rfl) (fun K hK => ?_)
   go_simp
   first
    | (go_at_call 147;refine (HX.out _ (by assumption)).mono ?_;rintro e w5 ⟨rfl,hb5⟩)
    | (go_at_call 183;refine (qdc t u _).mono ?_;rintro e w6 ⟨rfl,hb6⟩;rw [c4])
   try go_wp2_with fail
   refine hK.out _ _ ?_ (fun hHeld => ?_)
   ·exact Keeps.trans (by assumption) (by assumption)
   clear hK K
   try simp only [qaa]
   refine Plan.go [20,21] ?_
   iterate 2 (refine qac (by simp only [qab];rfl) (by kernel_rfl) (by exact fun _ _ _ h=>h) (by rfl) (by assumption) (fun w _=>by go_simp;try (with_reducible rfl)) ?_;try simp only [qaa])
   refine Plan.nil ?_
   refine wpAnyH_done (by kernel_rfl) ?_ _
   have K9:Keeps w w6:=by assumption
   go_wp2
   exact ⟨⟨k+1,_,by omega,by go_num,rfl,HT,K9⟩,by simp only [intOf];omega⟩
  ·have HT:Hid (topN ts cand (k+1)=(k:Int)):=by show _=_;rw [HS.out,c3,c4];rfl
   go_wp2_with fail
   refine wp_region_held_drew (S:=(fun w'=>Keeps w w')) (by kernel_rfl) ?_ (fun hHeld => ?_)
   ·exact Keeps.drew (by assumption)
   refine Plan.go [0,1,2,3,4,5] ?_
   iterate 6 (refine qac (by simp only [qab];rfl) (by kernel_rfl) (by exact fun _ _ _ h=>h) (by rfl) (by assumption) (fun w _=>by go_simp;try (with_reducible rfl)) ?_;try simp only [qaa])
   refine Plan.nil ?_
   refine qad 6 (by kernel_rfl) (by simp only [qab];rfl) (fun K hK => ?_)
   go_simp
   first
    | (go_at_call 147;refine (HX.out _ (by assumption)).mono ?_;rintro e w5 ⟨rfl,hb5⟩)
    | (go_at_call 183;refine (qdc t u _).mono ?_;rintro e w6 ⟨rfl,hb6⟩;rw [c4])
   try go_wp2_with fail
   refine hK.out _ _ ?_ (fun hHeld => ?_)
   ·exact Keeps.trans (by assumption) (by assumption)
   clear hK K
   try simp only [qaa]
   refine Plan.go [7,8,9,10,11,12,13,14,15,16,17,18] ?_
   iterate 12 (refine qac (by simp only [qab];rfl) (by kernel_rfl) (by exact fun _ _ _ h=>h) (by rfl) (by assumption) (fun w _=>by go_simp;try (with_reducible rfl)) ?_;try simp only [qaa])
   refine Plan.nil ?_
   refine qad 19 (by kernel_rfl) (by simp only [qab];rfl) (fun K hK => ?_)
   go_simp
   first
    | (go_at_call 147;refine (HX.out _ (by assumption)).mono ?_;rintro e w5 ⟨rfl,hb5⟩)
    | (go_at_call 183;refine (qdc t u _).mono ?_;rintro e w6 ⟨rfl,hb6⟩;rw [c4])
   try go_wp2_with fail
   refine hK.out _ _ ?_ (fun hHeld => ?_)
   ·exact Keeps.trans (by assumption) (by assumption)
   clear hK K
   try simp only [qaa]
   refine Plan.go [20,21] ?_
   iterate 2 (refine qac (by simp only [qab];rfl) (by kernel_rfl) (by exact fun _ _ _ h=>h) (by rfl) (by assumption) (fun w _=>by go_simp;try (with_reducible rfl)) ?_;try simp only [qaa])
   refine Plan.nil ?_
   refine wpAnyH_done (by kernel_rfl) ?_ _
   have K9:Keeps w w6:=by assumption
   go_wp2
   exact ⟨⟨k+1,_,by omega,by go_num,rfl,HT,K9⟩,by simp only [intOf];omega⟩
 ·have e:k=n:=by omega
  subst e
  have hlt':decide ((k:Int) < (k:Int))=false:=by simp
  cases c3:decide (A < 0)
  rotate_left
  ·have Hr:Hid (qcm ts xs=0):=by show _=_;rw [HP.out,HA.out];unfold noAt;rw [if_pos (of_decide_eq_true c3)]
   go_wp2
   go_ret
   exact ⟨by rw [Hr.out];rfl,hK⟩
  ·have hA0:0 <= A:=by simpa using c3
   obtain ⟨j,rfl⟩:=Int.eq_ofNat_of_zero_le hA0
   have hj:j < k:=by omega
   have hj':(j:Int) < (k:Int):=by omega
   obtain ⟨u,hu⟩:=qbP (xs:=ts) (k:=j) (by rw [Hn.out];exact hj)
   have Hr:Hid (qcm ts xs=u.no):=by show _=_;rw [HP.out,HA.out];unfold noAt;rw [if_neg (of_decide_eq_false c3),Int.toNat_natCast,qdt hu]
   obtain ⟨ba,off,rfl,all⟩:=H.out.all (by omega)
   obtain ⟨r0,r1⟩:=all j u hu
   clear all hu
   go_wp2
   go_ret
   exact ⟨by rw [Hr.out];rfl,hK⟩
end Go.Proofs.YteagpjlgjfaclaaGreatDoor
