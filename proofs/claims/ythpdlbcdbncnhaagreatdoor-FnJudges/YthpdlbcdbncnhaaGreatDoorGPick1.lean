/-
  Picking: contracts of the model's functions. Picking: contr
  What the laws of chapter 7 draw: the contracts of the model
  A list of locks that comes in as an argument: what its read
-/
import Derived.Test.YthpdlbcdbncnhaaGreatDoorGPure2
import Derived.Test.YthpdlbcdbncnhaaGreatDoorGDraw2
import Derived.Test.YthpdlbcdbncnhaaGreatDoorGDff1
import Derived.Test.YthpdlbcdbncnhaaGreatDoorGDff2
import Derived.Deep.RegionHeld3
import Derived.Test.YthpdlbcdbncnhaaGreatDoorGBase2
import Derived.Test.YthpdlbcdbncnhaaGreatDoorGLock1
import Derived.Deep.SlicePairs
namespace Go.Proofs.YthpdlbcdbncnhaaGreatDoor
set_option maxRecDepth 100000
open Go.RowKit
attribute [local go_sem] Keeps.refl Keeps.alloc Keeps.drew Keeps.drewN
set_option maxHeartbeats 2000000 in
theorem qcK (a b:Tsk) (w:World) :
  Calls Tryz.prog 67 #[tk a,tk b] w fun e w'=>e = .returned (.bool (befB a b)) /\ Keeps w w':=by
 go_enter Tryz.func67,Tryz.ntmps67
 go_wp2_with fail
 have kW:Keeps w ((w.alloc (.cells (tc a) 47)).alloc (.cells (tc b) 47)):=((Keeps.refl w).alloc _).alloc _
 have r1:∀ w',Keeps ((w.alloc (.cells (tc a) 47)).alloc (.cells (tc b) 47)) w'->∀ k,w'.cell? ⟨w.heap.size,k,none⟩=(tc a)[k]?:=fun w' h=>(((Blk.new w (tc a) 47).alloc _).keeps h).cells
 have r2:∀ w',Keeps ((w.alloc (.cells (tc a) 47)).alloc (.cells (tc b) 47)) w'->∀ k,w'.cell? ⟨w.heap.size+1,k,none⟩=(tc b)[k]?:=fun w' h=>by
  have:=(Blk.new (w.alloc (.cells (tc a) 47)) (tc b) 47).keeps h
  simp only [World.size_alloc] at this
  exact this.cells
 generalize (w.alloc (.cells (tc a) 47)).alloc (.cells (tc b) 47)=W at *
 refine (qcT a _).mono ?_
 rintro e w1 ⟨rfl,k1⟩
 cases ha:qae a
 ·have Hr:Hid (befB a b=false):=by show _=_;simp [befB,ha]
  go_wp2
  go_ret
  exact ⟨by rw [Hr.out];rfl,kW.trans k1⟩
 ·go_wp2_with fail
  refine (qcT b _).mono ?_
  rintro e w2 ⟨rfl,k2⟩
  have K2:=k1.trans k2
  cases hb:qae b
  ·have Hr:Hid (befB a b=false):=by show _=_;simp [befB,hb]
   go_wp2
   go_ret
   exact ⟨by rw [Hr.out];rfl,kW.trans K2⟩
  ·cases hc:(a.cls != b.cls)
   ·have Hr:Hid (befB a b=(qaT a b||(qaS a b||qaU a b))):=by show _=_;unfold befB;rw [ha,hb,hc];rfl
    go_wp2_with fail
    refine (qkx a b _).mono ?_
    rintro e w3 ⟨rfl,k3⟩
    have K3:=K2.trans k3
    cases h1:qaT a b
    ·go_wp2_with fail
     refine (qkD a b _).mono ?_
     rintro e w4 ⟨rfl,k4⟩
     have K4:=K3.trans k4
     cases h2:qaS a b
     ·go_wp2_with fail
      refine (qky a b _).mono ?_
      rintro e w5 ⟨rfl,k5⟩
      have K5:=K4.trans k5
      have Hr2:Hid (befB a b=qaU a b):=by show _=_;rw [Hr.out,h1,h2];rfl
      go_wp2
      go_ret
      exact ⟨by rw [Hr2.out];rfl,kW.trans K5⟩
     ·have Hr2:Hid (befB a b=true):=by show _=_;rw [Hr.out,h1,h2];rfl
      go_wp2
      go_ret
      exact ⟨by rw [Hr2.out];rfl,kW.trans K4⟩
    ·have Hr2:Hid (befB a b=true):=by show _=_;rw [Hr.out,h1];rfl
     go_wp2
     go_ret
     exact ⟨by rw [Hr2.out];rfl,kW.trans K3⟩
   ·have Hr:Hid (befB a b=decide (a.cls < b.cls)):=by show _=_;unfold befB;rw [ha,hb,hc];rfl
    go_wp2
    go_ret
    exact ⟨by rw [Hr.out];rfl,kW.trans K2⟩
structure OnT (w:World) (a:Option Addr) (n cap:Nat) (ts:List Tsk):Prop where
 len:ts.length=n
 small:ts.length <= maxLen
 lies:Ts w a ts
section calls
variable {w w':World} {a:Option Addr} {n cap:Nat} {ts:List Tsk}
theorem OnT.keeps (h:OnT w a n cap ts) (k:Keeps w w'):OnT w' a n cap ts:=⟨h.len,h.small,h.lies.keeps k⟩
theorem OnT.sTaskAt (h:OnT w a n cap ts) (x:Int) {z:Int} (hz:qar ts x=z) (k:Keeps w w'):Calls Tryz.prog 36 #[.slice a n cap,.int .i64 x] w' fun e w''=>e = .returned (.int .i64 z) /\ Keeps w' w'':=by
 have:=qoa a cap ts x w' h.small (h.keeps k).lies
 rw [h.len,hz] at this
 exact this
theorem OnT.sTasksOk (h:OnT w a n cap ts) {z:Bool} (hz:qao ts=z) (k:Keeps w w'):Calls Tryz.prog 70 #[.slice a n cap] w' fun e w''=>e = .returned (.bool z) /\ Keeps w' w'':=by
 have:=qen a cap ts w' h.small (h.keeps k).lies
 rw [h.len,hz] at this
 exact this
theorem OnT.all (h:OnT w a n cap ts) (hn:0 < n):∃ b off,a=some ⟨b,off,none⟩ /\ ∀ (i:Nat) (t:Tsk),ts[i]?=some t->(∀ w',Keeps w w'->w'.cell? ⟨b,off+i*14,none⟩=some (.int .i64 t.no)) /\ ∀ w',Keeps w w'->∀ k,k < 14->w'.cell? ⟨b,off+i*14+k,none⟩=(tc t)[k]?:=by
 obtain ⟨t0,h0⟩:=qbB (xs:=ts) (k:=0) (by rw [h.len];exact hn)
 obtain ⟨b,off,rfl,-,-⟩:=h.lies.at h0 (by omega)
 refine ⟨b,off,rfl,fun i t ht => ?_⟩
 obtain ⟨b',off',e,r0,r1⟩:=h.lies.at ht (by omega)
 simp only [Option.some.injEq,Addr.mk.injEq] at e
 obtain ⟨rfl,rfl,-⟩:=e
 exact ⟨r0,r1⟩
end calls
set_option maxHeartbeats 2000000 in
theorem qie {w:World} {a:Option Addr} {n cap:Nat} {ts:List Tsk} {b:Option Addr} {m cap2:Nat} {ls:List Lk} (T:OnT w a n cap ts) (L:On w b m cap2 ls) (no:Int) :
  Calls Tryz.prog 114 #[.slice a n cap,.slice b m cap2,.int .i64 no] w fun e w'=>e = .returned (.int .i64 (qa6 ts ls no)) /\ Keeps w w':=by
 have HT:Hid (OnT w a n cap ts):=T
 have HL:Hid (On w b m cap2 ls):=L
 clear T L
 obtain ⟨C,HC⟩:∃ C,Hid (qbA ls no=C):=⟨_,rfl⟩
 have hp:Hid (0 < C.length):=by show _ < _;rw [<- HC.out];exact qfg ls no
 have hle:Hid (C.length <= m+2):=by show _ <= _;rw [<- HC.out];have:=qh7 ls (ls.length+1) no;have:=HL.out.len;unfold qbA;omega
 have hm:Hid (m <= 2097152):=by show _ <= _;rw [<- HL.out.len];have:=qdw ls;have:=HL.out.size;omega
 have hE:Hid (qa6 ts ls no=if C.all (qag ts) then qcM C else 0):=by show _=_;unfold qa6;rw [HC.out]
 go_enter Tryz.func114,Tryz.ntmps114
 go_wp2_with fail
 refine (HL.out.sChain no (Keeps.refl _)).mono ?_
 rintro e w1 ⟨v,rfl,o1,k1⟩
 have o1':OwnN w1 w.heap.size v C:=by rw [<- HC.out];exact o1
 clear o1
 obtain ⟨bc,cc,rfl,hqc,rc⟩:=OwnN.cells o1' hp.out
 obtain ⟨q,Hq⟩:∃ q,Hid (C.length=q):=⟨_,rfl⟩
 rw [Hq.out] at hqc ⊢
 have hq0:0 < q:=by rw [<- Hq.out];exact hp.out
 have hq1:q <= 4000000:=by rw [<- Hq.out];have:=hle.out;have:=hm.out;omega
 have RC:Hid (∀ (k:Nat) (x:Int),C[k]?=some x->∀ w',Keeps w1 w'->w'.cell? ⟨bc,k,none⟩=some (.int .i64 x)):=rc
 have K1:Hid (Keeps w w1):=k1
 clear o1' rc k1
 go_wp2
 go_loopw [9] (fun i wr=>∃ k:Nat,k <= q /\ i = .int .i64 k /\ Keeps w1 wr /\ Hid (∀ j x,j < k->C[j]?=some x->qag ts x=true)) (fun i _=>q - (intOf i).toNat)
 case atStart=>exact ⟨0,Nat.zero_le _,rfl,Keeps.refl _,fun j x hj=>by omega⟩
 case round =>
  obtain ⟨k,hk,rfl,hK,H⟩:=hrel
  by_cases hlt:k < q
  ·have hlt':(k:Int) < (q:Int):=by omega
   obtain ⟨x,hx⟩:=qai (xs:=C) (k:=k) (by rw [Hq.out];exact hlt)
   have r0:∀ w',Keeps w1 w'->w'.cell? ⟨bc,k,none⟩=some (.int .i64 x):=RC.out k x hx
   have Hx:Hid (C[k]?=some x):=hx
   clear hx
   obtain ⟨z,Hz⟩:∃ z,Hid (qar ts x=z):=⟨_,rfl⟩
   cases hn:decide (z < 0)
   ·have hth:qag ts x=true:=by unfold qag;rw [Hz.out,hn];rfl
    go_wp2_with (go_at_call 36;refine (HT.out.sTaskAt x Hz.out (K1.out.trans hK)).mono ?_;rintro e w2 ⟨rfl,k2⟩)
    exact ⟨⟨k+1,by omega,by go_num,hK.trans k2,fun j y hj hy=>by
     by_cases e:j=k
     ·subst e;rw [Hx.out] at hy;cases hy;exact hth
     ·exact H.out j y (by omega) hy⟩,by simp only [intOf];omega⟩
   ·have hth:qag ts x=false:=by unfold qag;rw [Hz.out,hn];rfl
    have Hr:Hid (qa6 ts ls no=0):=by
     show _=_
     rw [hE.out,if_neg]
     rw [List.all_eq_true]
     intro h
     have:=h x (List.mem_of_getElem? Hx.out)
     rw [hth] at this
     cases this
    go_wp2_with (go_at_call 36;refine (HT.out.sTaskAt x Hz.out (K1.out.trans hK)).mono ?_;rintro e w2 ⟨rfl,k2⟩)
    go_ret
    exact ⟨by rw [Hr.out];rfl,K1.out.trans (hK.trans k2)⟩
  ·have Hr:Hid (qa6 ts ls no=qcM C):=by
    show _=_
    rw [hE.out,if_pos]
    rw [List.all_eq_true]
    intro x hx
    obtain ⟨j,hj,rfl⟩:=List.mem_iff_getElem.1 hx
    exact H.out j _ (by rw [Hq.out] at hj;omega) (List.getElem?_eq_getElem hj)
   obtain ⟨q1,Hq1⟩:∃ q1:Nat,Hid (q=q1+1):=⟨q - 1,by show _=_;omega⟩
   have eq1:IntKind.i64.wrap ((q:Int) - 1)=(q1:Int):=by rw [Go.IntWalk.i64_in _ (by omega),Hq1.out];omega
   have hqq:q1 < q:=by rw [Hq1.out];omega
   have hqq':(q1:Int) < (q:Int):=by omega
   have r0:∀ w',Keeps w1 w'->w'.cell? ⟨bc,q1,none⟩=some (.int .i64 (qcM C)):=RC.out q1 _ (by have:=qgi hp.out;rw [Hq.out,Hq1.out] at this;simpa using this)
   go_wp2
   go_ret
   exact ⟨by rw [Hr.out];rfl,K1.out.trans hK⟩
structure Two (w:World) (a:Option Addr) (n cap:Nat) (ts:List Tsk) (b:Option Addr) (m cap2:Nat) (ls:List Lk):Prop where
 t:OnT w a n cap ts
 l:On w b m cap2 ls
theorem Two.keeps {w w':World} {a:Option Addr} {n cap:Nat} {ts:List Tsk} {b:Option Addr} {m cap2:Nat} {ls:List Lk} (h:Two w a n cap ts b m cap2 ls) (k:Keeps w w'):Two w' a n cap ts b m cap2 ls:=⟨h.t.keeps k,h.l.keeps k⟩
theorem Two.exec {w w':World} {a:Option Addr} {n cap:Nat} {ts:List Tsk} {b:Option Addr} {m cap2:Nat} {ls:List Lk} (h:Two w a n cap ts b m cap2 ls) (no:Int) {z:Int} (hz:qa6 ts ls no=z) (k:Keeps w w') :
  Calls Tryz.prog 114 #[.slice a n cap,.slice b m cap2,.int .i64 no] w' fun e w''=>e = .returned (.int .i64 z) /\ Keeps w' w'':=by
 have:=qie (h.keeps k).t (h.keeps k).l no
 rw [hz] at this
 exact this
theorem OnT.there {w:World} {a:Option Addr} {n cap:Nat} {ts:List Tsk} (h:OnT w a n cap ts) {x:Int} (hx:qag ts x=true):∃ (k:Nat) (b off:Nat),k < n /\ a=some ⟨b,off,none⟩ /\ qar ts x=(k:Int) /\ ts[k]?=some (tAt ts x) /\ (tAt ts x).no=x /\ (∀ w',Keeps w w'->w'.cell? ⟨b,off+k*14,none⟩=some (.int .i64 (tAt ts x).no)) /\ ∀ w',Keeps w w'->∀ j,j < 14->w'.cell? ⟨b,off+k*14+j,none⟩=(tc (tAt ts x))[j]?:=by
 obtain ⟨k,t,e,ht,hno⟩:=qbV.1 hx
 have e2:=qcE e ht
 obtain ⟨b,off,rfl,r0,r1⟩:=h.lies.at ht (by omega)
 rw [e2]
 exact ⟨k,b,off,by rw [<- h.len];exact qas ht,rfl,e,ht,hno,r0,r1⟩
set_option maxHeartbeats 2000000 in
theorem qif {w:World} {a:Option Addr} {n cap:Nat} {ts:List Tsk} {b:Option Addr} {m cap2:Nat} {ls:List Lk} (h:Two w a n cap ts b m cap2 ls) (no:Int) :
  Calls Tryz.prog 108 #[.slice a n cap,.slice b m cap2,.int .i64 no] w fun e w'=>e = .returned (.bool (qbF ts ls no)) /\ Keeps w w':=by
 have H:Hid (Two w a n cap ts b m cap2 ls):=h
 clear h
 obtain ⟨x,Hx⟩:∃ x,Hid (qa6 ts ls no=x):=⟨_,rfl⟩
 have Hr:Hid (qbF ts ls no=(x != 0&&((tAt ts no).st==1&&(tAt ts x).st==1))):=by show _=_;unfold qbF;rw [Hx.out]
 cases hx:(x != 0)
 ·have Hr2:Hid (qbF ts ls no=false):=by show _=_;rw [Hr.out,hx];rfl
  go_enter Tryz.func108,Tryz.ntmps108
  go_wp2_with (go_at_call 114;refine (H.out.exec no Hx.out (Keeps.refl _)).mono ?_;rintro e w1 ⟨rfl,k1⟩)
  go_ret
  exact ⟨by rw [Hr2.out];rfl,k1⟩
 ·have th:=qeL (ts:=ts) (ls:=ls) (no:=no) (by rw [Hx.out];exact hx)
  rw [Hx.out] at th
  obtain ⟨k,b1,o1,hk,e,Hk,-,-,-,r1⟩:=H.out.t.there th.2.2.1
  subst e
  obtain ⟨j,b2,o2,hj,e,Hj,-,-,-,r2⟩:=H.out.t.there th.2.2.2
  simp only [Option.some.injEq,Addr.mk.injEq] at e
  obtain ⟨rfl,rfl,-⟩:=e
  have HK:Hid (qar ts no=(k:Int)):=Hk
  have HJ:Hid (qar ts x=(j:Int)):=Hj
  clear th Hk Hj
  have hk':(k:Int) < (n:Int):=by omega
  have hj':(j:Int) < (n:Int):=by omega
  cases h1:((tAt ts no).st==1)
  ·have Hr2:Hid (qbF ts ls no=false):=by show _=_;rw [Hr.out,h1,Bool.false_and,Bool.and_false]
   go_enter Tryz.func108,Tryz.ntmps108
   go_wp2_with (first
    | (go_at_call 114;refine (H.out.exec no Hx.out (Keeps.refl _)).mono ?_;rintro e w1 ⟨rfl,k1⟩)
    | (go_at_call 36;refine (H.out.t.sTaskAt no HK.out k1).mono ?_;rintro e w2 ⟨rfl,k2⟩;have K2:=k1.trans k2))
   go_ret
   exact ⟨by rw [Hr2.out];rfl,K2⟩
  ·have Hr2:Hid (qbF ts ls no=((tAt ts x).st==1)):=by show _=_;rw [Hr.out,hx,h1];rfl
   go_enter Tryz.func108,Tryz.ntmps108
   go_wp2_with (first
    | (go_at_call 114;refine (H.out.exec no Hx.out (Keeps.refl _)).mono ?_;rintro e w1 ⟨rfl,k1⟩)
    | (go_at_call 36;have k0:=k1;clear k1;refine (H.out.t.sTaskAt no HK.out k0).mono ?_;rintro e w2 ⟨rfl,k2⟩;have K2:=k0.trans k2)
    | (go_at_call 36;refine (H.out.t.sTaskAt x HJ.out K2).mono ?_;rintro e w3 ⟨rfl,k3⟩;have K3:=K2.trans k3))
   go_ret
   exact ⟨by rw [Hr2.out];rfl,K3⟩
theorem Two.able {w w':World} {a:Option Addr} {n cap:Nat} {ts:List Tsk} {b:Option Addr} {m cap2:Nat} {ls:List Lk} (h:Two w a n cap ts b m cap2 ls) (no:Int) {z:Bool} (hz:qbF ts ls no=z) (k:Keeps w w') :
  Calls Tryz.prog 108 #[.slice a n cap,.slice b m cap2,.int .i64 no] w' fun e w''=>e = .returned (.bool z) /\ Keeps w' w'':=by
 have:=qif (h.keeps k) no
 rw [hz] at this
 exact this
theorem qig {ts:List Tsk} {ls:List Lk} {no:Int} (h:qbF ts ls no=true):qag ts no=true /\ qag ts (qa6 ts ls no)=true:=by
 unfold qbF at h
 rw [Bool.and_eq_true] at h
 have:=qeL h.1
 exact ⟨this.2.2.1,this.2.2.2⟩
set_option maxHeartbeats 2000000 in
theorem qng {w:World} {a:Option Addr} {n cap:Nat} {ts:List Tsk} {b:Option Addr} {m cap2:Nat} {ls:List Lk} (h:Two w a n cap ts b m cap2 ls) (no:Int) :
  Calls Tryz.prog 66 #[.slice a n cap,.slice b m cap2,.int .i64 no] w fun e w'=>e = .returned (.bool (canB ts ls no)) /\ Keeps w w':=by
 have H:Hid (Two w a n cap ts b m cap2 ls):=h
 clear h
 cases h1:qbF ts ls no
 ·have Hr2:Hid (canB ts ls no=false):=by show _=_;unfold canB;rw [h1];rfl
  go_enter Tryz.func66,Tryz.ntmps66
  go_wp2_with (go_at_call 108;refine (H.out.able no h1 (Keeps.refl _)).mono ?_;rintro e w1 ⟨rfl,k1⟩)
  go_ret
  exact ⟨by rw [Hr2.out];rfl,k1⟩
 ·have Hr:Hid (canB ts ls no=mayB (tAt ts no)):=by show _=_;unfold canB;rw [h1];rfl
  obtain ⟨k,b1,o1,hk,rfl,Hk,-,-,r0,r1⟩:=H.out.t.there (qig h1).1
  have HK:Hid (qar ts no=(k:Int)):=Hk
  clear Hk
  have hk':(k:Int) < (n:Int):=by omega
  generalize tAt ts no=t at *
  cases h2:(t.cls != 1)
  ·have Hr2:Hid (canB ts ls no=decide (0 < t.left)):=by show _=_;rw [Hr.out];unfold mayB;rw [h2];rfl
   go_enter Tryz.func66,Tryz.ntmps66
   go_wp2_with (first
    | (go_at_call 108;refine (H.out.able no h1 (Keeps.refl _)).mono ?_;rintro e w1 ⟨rfl,k1⟩)
    | (go_at_call 36;refine (H.out.t.sTaskAt no HK.out k1).mono ?_;rintro e w2 ⟨rfl,k2⟩;have K2:=k1.trans k2))
   go_ret
   exact ⟨by rw [Hr2.out];rfl,K2.alloc _⟩
  ·have Hr2:Hid (canB ts ls no=true):=by show _=_;rw [Hr.out];unfold mayB;rw [h2];rfl
   go_enter Tryz.func66,Tryz.ntmps66
   go_wp2_with (first
    | (go_at_call 108;refine (H.out.able no h1 (Keeps.refl _)).mono ?_;rintro e w1 ⟨rfl,k1⟩)
    | (go_at_call 36;refine (H.out.t.sTaskAt no HK.out k1).mono ?_;rintro e w2 ⟨rfl,k2⟩;have K2:=k1.trans k2))
   go_ret
   exact ⟨by rw [Hr2.out];rfl,K2.alloc _⟩
theorem Two.can {w w':World} {a:Option Addr} {n cap:Nat} {ts:List Tsk} {b:Option Addr} {m cap2:Nat} {ls:List Lk} (h:Two w a n cap ts b m cap2 ls) (no:Int) {z:Bool} (hz:canB ts ls no=z) (k:Keeps w w') :
  Calls Tryz.prog 66 #[.slice a n cap,.slice b m cap2,.int .i64 no] w' fun e w''=>e = .returned (.bool z) /\ Keeps w' w'':=by
 have:=qng (h.keeps k) no
 rw [hz] at this
 exact this
end Go.Proofs.YthpdlbcdbncnhaaGreatDoor
namespace Go.Proofs.YthpdlbcdbncnhaaGreatDoor
set_option maxRecDepth 100000
open Go.RowKit
attribute [local go_sem] Keeps.refl Keeps.alloc Keeps.drew Keeps.drewN KeepsBut.refl KeepsBut.drew KeepsBut.alloc KeepsBut.drewN
structure Drawn (w w':World) (v:Value) (ls:List Lk):Prop where
 mine:∃ vs,Mine w' w.heap.size w'.heap.size v vs ls
 pos:1 <= ls.length
 le:ls.length <= 6
 size:qak ls <= 17
 keep:Keeps w w'
end Go.Proofs.YthpdlbcdbncnhaaGreatDoor
namespace Go.Proofs.YthpdlbcdbncnhaaGreatDoor
set_option maxRecDepth 100000
open Go.ChangeShapes Go.WideShapes Go.ChangeAt Go.RowKit
end Go.Proofs.YthpdlbcdbncnhaaGreatDoor
