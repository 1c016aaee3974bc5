/-
  Calls: what a kind names, and which calls are right.
  Picking: contracts of the model's Executor, Able and CanTur
  Picking: contracts of the model's Executor, Able, CanTurn,
-/
import Derived.Test.YteagpjlgjfaclaaGreatDoorFairList
import Derived.Test.YteagpjlgjfaclaaGreatDoorPlain1
import Derived.Laws.StructEq
import Derived.Test.YteagpjlgjfaclaaGreatDoorPickSpec
namespace Go.Proofs.YteagpjlgjfaclaaGreatDoor
set_option maxRecDepth 100000
open Go.RowKit
attribute [local go_sem] aa.refl aa.alloc aa.drew aa.drewN
abbrev cc (c:Cl):Array Value:=#[.int .i64 c.kind,.int .i64 c.no,.int .i64 c.cpu,.int .i64 c.a,.int .i64 c.b]
abbrev ck (c:Cl):Value := .agg (cc c)
theorem vz (c:Cl):(cc c).size=5:=rfl
theorem CD (d:Nat) (w:World) (a b:Cl):(Op.equalIn (d+2) 32 (ck a) (ck b)).run Tryz.prog w = .ok (fh a b) w:=by
 obtain ⟨a0,a1,a2,a3,a4⟩:=a
 obtain ⟨b0,b1,b2,b3,b4⟩:=b
 simp only [fh]
 rw [run_equalIn_agg _ _ _ _ _ (by kernel_rfl) (by kernel_rfl)]
 go_simp
 by_cases h0:a0=b0
 case neg=>simp only [if_neg h0,beq_eq_false_iff_ne.2 h0,Bool.false_and]
 simp only [if_pos h0,beq_iff_eq.2 h0,Bool.true_and]
 by_cases h1:a1=b1
 case neg=>simp only [if_neg h1,beq_eq_false_iff_ne.2 h1,Bool.false_and]
 simp only [if_pos h1,beq_iff_eq.2 h1,Bool.true_and]
 by_cases h2:a2=b2
 case neg=>simp only [if_neg h2,beq_eq_false_iff_ne.2 h2,Bool.false_and]
 simp only [if_pos h2,beq_iff_eq.2 h2,Bool.true_and]
 by_cases h3:a3=b3
 case neg=>simp only [if_neg h3,beq_eq_false_iff_ne.2 h3,Bool.false_and]
 simp only [if_pos h3,beq_iff_eq.2 h3,Bool.true_and]
 by_cases h4:a4=b4
 case neg=>simp only [if_neg h4,beq_eq_false_iff_ne.2 h4]
 simp only [if_pos h4,beq_iff_eq.2 h4]
theorem vD (w:World) (a b:Cl):(binOp .eql 32 (ck a) (ck b)).run Tryz.prog w = .ok (.bool (fh a b)) w:=by
 rw [run_eql_struct,CD 9998];rfl
set_option maxHeartbeats 4000000 in
theorem sG (c:Cl) (w:World) :
  Calls Tryz.prog 81 #[ck c] w fun e w'=>e = .returned (ck (dU c)) /\ aa w w':=by
 cases c1:(c.kind==1)
 rotate_left
 ·have Hr:Hid (dU c=c):=by show _=_;simp [dU,c1]
  go_enter Tryz.func81,Tryz.ntmps81
  go_wp2
  exact bodyPost_ret (v:=ck c) (by simp [results,Tryz.results81,go_sem]) rfl ⟨by rw [Hr.out],by repeat (first | exact aa.refl _ | refine aa.setCell ?_ (by simp) _ | refine aa.alloc ?_ _ | refine aa.drewN ?_ _)⟩
 cases c2:(c.kind==2)
 rotate_left
 ·have Hr:Hid (dU c=c):=by show _=_;simp [dU,c1,c2]
  go_enter Tryz.func81,Tryz.ntmps81
  go_wp2
  exact bodyPost_ret (v:=ck c) (by simp [results,Tryz.results81,go_sem]) rfl ⟨by rw [Hr.out],by repeat (first | exact aa.refl _ | refine aa.setCell ?_ (by simp) _ | refine aa.alloc ?_ _ | refine aa.drewN ?_ _)⟩
 cases c3:(c.kind==3)
 rotate_left
 ·have Hr:Hid (dU c={ c with b:=0 }):=by show _=_;simp [dU,c1,c2,c3]
  go_enter Tryz.func81,Tryz.ntmps81
  go_wp2
  exact bodyPost_ret (v:=ck { c with b:=0 }) (by simp [results,Tryz.results81,go_sem]) rfl ⟨by rw [Hr.out],by repeat (first | exact aa.refl _ | refine aa.setCell ?_ (by simp) _ | refine aa.alloc ?_ _ | refine aa.drewN ?_ _)⟩
 cases c4:(c.kind==4)
 rotate_left
 ·have Hr:Hid (dU c={ c with cpu:=0,a:=0,b:=0 }):=by show _=_;simp [dU,c1,c2,c3,c4]
  go_enter Tryz.func81,Tryz.ntmps81
  go_wp2
  exact bodyPost_ret (v:=ck { c with cpu:=0,a:=0,b:=0 }) (by simp [results,Tryz.results81,go_sem]) rfl ⟨by rw [Hr.out],by repeat (first | exact aa.refl _ | refine aa.setCell ?_ (by simp) _ | refine aa.alloc ?_ _ | refine aa.drewN ?_ _)⟩
 cases c5:(c.kind==5)
 rotate_left
 ·have Hr:Hid (dU c={ c with cpu:=0,a:=0,b:=0 }):=by show _=_;simp [dU,c1,c2,c3,c4,c5]
  go_enter Tryz.func81,Tryz.ntmps81
  go_wp2
  exact bodyPost_ret (v:=ck { c with cpu:=0,a:=0,b:=0 }) (by simp [results,Tryz.results81,go_sem]) rfl ⟨by rw [Hr.out],by repeat (first | exact aa.refl _ | refine aa.setCell ?_ (by simp) _ | refine aa.alloc ?_ _ | refine aa.drewN ?_ _)⟩
 cases c6:(c.kind==6)
 rotate_left
 ·have Hr:Hid (dU c={ c with cpu:=0,a:=0,b:=0 }):=by show _=_;simp [dU,c1,c2,c3,c4,c5,c6]
  go_enter Tryz.func81,Tryz.ntmps81
  go_wp2
  exact bodyPost_ret (v:=ck { c with cpu:=0,a:=0,b:=0 }) (by simp [results,Tryz.results81,go_sem]) rfl ⟨by rw [Hr.out],by repeat (first | exact aa.refl _ | refine aa.setCell ?_ (by simp) _ | refine aa.alloc ?_ _ | refine aa.drewN ?_ _)⟩
 cases c7:(c.kind==7)
 rotate_left
 ·have Hr:Hid (dU c={ c with cpu:=0,b:=0 }):=by show _=_;simp [dU,c1,c2,c3,c4,c5,c6,c7]
  go_enter Tryz.func81,Tryz.ntmps81
  go_wp2
  exact bodyPost_ret (v:=ck { c with cpu:=0,b:=0 }) (by simp [results,Tryz.results81,go_sem]) rfl ⟨by rw [Hr.out],by repeat (first | exact aa.refl _ | refine aa.setCell ?_ (by simp) _ | refine aa.alloc ?_ _ | refine aa.drewN ?_ _)⟩
 cases c8:(c.kind==8)
 rotate_left
 ·have Hr:Hid (dU c={ c with cpu:=0,b:=0 }):=by show _=_;simp [dU,c1,c2,c3,c4,c5,c6,c7,c8]
  go_enter Tryz.func81,Tryz.ntmps81
  go_wp2
  exact bodyPost_ret (v:=ck { c with cpu:=0,b:=0 }) (by simp [results,Tryz.results81,go_sem]) rfl ⟨by rw [Hr.out],by repeat (first | exact aa.refl _ | refine aa.setCell ?_ (by simp) _ | refine aa.alloc ?_ _ | refine aa.drewN ?_ _)⟩
 cases c9:(c.kind==9)
 rotate_left
 ·have Hr:Hid (dU c={ c with cpu:=0,b:=0 }):=by show _=_;simp [dU,c1,c2,c3,c4,c5,c6,c7,c8,c9]
  go_enter Tryz.func81,Tryz.ntmps81
  go_wp2
  exact bodyPost_ret (v:=ck { c with cpu:=0,b:=0 }) (by simp [results,Tryz.results81,go_sem]) rfl ⟨by rw [Hr.out],by repeat (first | exact aa.refl _ | refine aa.setCell ?_ (by simp) _ | refine aa.alloc ?_ _ | refine aa.drewN ?_ _)⟩
 cases c10:(c.kind==10)
 rotate_left
 ·have Hr:Hid (dU c={ c with a:=0,b:=0 }):=by show _=_;simp [dU,c1,c2,c3,c4,c5,c6,c7,c8,c9,c10]
  go_enter Tryz.func81,Tryz.ntmps81
  go_wp2
  exact bodyPost_ret (v:=ck { c with a:=0,b:=0 }) (by simp [results,Tryz.results81,go_sem]) rfl ⟨by rw [Hr.out],by repeat (first | exact aa.refl _ | refine aa.setCell ?_ (by simp) _ | refine aa.alloc ?_ _ | refine aa.drewN ?_ _)⟩
 cases c11:(c.kind==11)
 rotate_left
 ·have Hr:Hid (dU c={ c with no:=0,cpu:=0,b:=0 }):=by show _=_;simp [dU,c1,c2,c3,c4,c5,c6,c7,c8,c9,c10,c11]
  go_enter Tryz.func81,Tryz.ntmps81
  go_wp2
  exact bodyPost_ret (v:=ck { c with no:=0,cpu:=0,b:=0 }) (by simp [results,Tryz.results81,go_sem]) rfl ⟨by rw [Hr.out],by repeat (first | exact aa.refl _ | refine aa.setCell ?_ (by simp) _ | refine aa.alloc ?_ _ | refine aa.drewN ?_ _)⟩
 have Hr:Hid (dU c=c):=by show _=_;simp [dU,c1,c2,c3,c4,c5,c6,c7,c8,c9,c10,c11]
 go_enter Tryz.func81,Tryz.ntmps81
 go_wp2
 exact bodyPost_ret (v:=ck c) (by simp [results,Tryz.results81,go_sem]) rfl ⟨by rw [Hr.out],by repeat (first | exact aa.refl _ | refine aa.setCell ?_ (by simp) _ | refine aa.alloc ?_ _ | refine aa.drewN ?_ _)⟩
set_option maxHeartbeats 2000000 in
theorem vU {w:World} {a:Option Addr} {n cap:Nat} {ts:List ar} {b:Option Addr} {m cap2:Nat} {ls:List Lk} (T:fM w a n cap ts) (L:On w b m cap2 ls) (no:Int) :
  Calls Tryz.prog 203 #[.slice a n cap,.slice b m cap2,.int .i64 no] w fun e w'=>e = .returned (.int .i64 (ie ts ls no)) /\ aa w w':=by
 have HT:Hid (fM w a n cap ts):=T
 have HL:Hid (On w b m cap2 ls):=L
 clear T L
 obtain ⟨C,HC⟩:∃ C,Hid (kG ls no=C):=⟨_,rfl⟩
 have hp:Hid (0 < C.length):=by show _ < _;rw [<- HC.out];exact vV ls no
 have hle:Hid (C.length <= m+2):=by show _ <= _;rw [<- HC.out];have:=vW ls (ls.length+1) no;have:=HL.out.len;unfold kG;omega
 have hm:Hid (m <= 2097152):=by show _ <= _;rw [<- HL.out.len];have:=lP ls;have:=HL.out.size;omega
 have hE:Hid (ie ts ls no=if C.all (ct ts) then mv C else 0):=by show _=_;unfold ie;rw [HC.out]
 go_enter Tryz.func203,Tryz.ntmps203
 go_wp2_with fail
 refine (HL.out.mw no (aa.refl _)).mono ?_
 rintro e w1 ⟨v,rfl,o1,k1⟩
 have vX:aS w1 w.heap.size v C:=by rw [<- HC.out];exact o1
 clear o1
 obtain ⟨bc,cc,rfl,hqc,rc⟩:=aS.cells vX hp.out
 obtain ⟨q,Hq⟩:∃ q,Hid (C.length=q):=⟨_,rfl⟩
 rw [Hq.out] at hqc ⊢
 have hq0:0 < q:=by rw [<- Hq.out];exact hp.out
 have hq1:q <= 4000000:=by rw [<- Hq.out];have:=hle.out;have:=hm.out;omega
 have RC:Hid (∀ (k:Nat) (x:Int),C[k]?=some x->∀ w',aa w1 w'->w'.cell? ⟨bc,k,none⟩=some (.int .i64 x)):=rc
 have K1:Hid (aa w w1):=k1
 clear vX rc k1
 go_wp2
 go_loopw [9] (fun i wr=>∃ k:Nat,k <= q /\ i = .int .i64 k /\ aa w1 wr /\ Hid (∀ j x,j < k->C[j]?=some x->ct ts x=true)) (fun i _=>q - (intOf i).toNat)
 case atStart=>exact ⟨0,Nat.zero_le _,rfl,aa.refl _,fun j x hj=>by omega⟩
 case round =>
  obtain ⟨k,hk,rfl,hK,H⟩:=hrel
  by_cases hlt:k < q
  ·have hlt':(k:Int) < (q:Int):=by omega
   obtain ⟨x,hx⟩:=cd (xs:=C) (k:=k) (by rw [Hq.out];exact hlt)
   have r0:∀ w',aa w1 w'->w'.cell? ⟨bc,k,none⟩=some (.int .i64 x):=RC.out k x hx
   have Hx:Hid (C[k]?=some x):=hx
   clear hx
   obtain ⟨z,Hz⟩:∃ z,Hid (dc ts x=z):=⟨_,rfl⟩
   cases hn:decide (z < 0)
   ·have hth:ct ts x=true:=by unfold ct;rw [Hz.out,hn];rfl
    go_wp2_with (go_at_call 71;refine (HT.out.aU x Hz.out (K1.out.trans hK)).mono ?_;rintro e w2 ⟨rfl,k2⟩)
    exact ⟨⟨k+1,by omega,by go_num,hK.trans k2,fun j y hj hy=>by
     by_cases e:j=k
     ·subst e;rw [Hx.out] at hy;cases hy;exact hth
     ·exact H.out j y (by omega) hy⟩,by simp only [intOf];omega⟩
   ·have hth:ct ts x=false:=by unfold ct;rw [Hz.out,hn];rfl
    have Hr:Hid (ie ts ls no=0):=by
     show _=_
     rw [hE.out,if_neg]
     rw [List.all_eq_true]
     intro h
     have:=h x (List.mem_of_getElem? Hx.out)
     rw [hth] at this
     cases this
    go_wp2_with (go_at_call 71;refine (HT.out.aU x Hz.out (K1.out.trans hK)).mono ?_;rintro e w2 ⟨rfl,k2⟩)
    go_ret
    exact ⟨by rw [Hr.out];rfl,K1.out.trans (hK.trans k2)⟩
  ·have Hr:Hid (ie ts ls no=mv C):=by
    show _=_
    rw [hE.out,if_pos]
    rw [List.all_eq_true]
    intro x hx
    obtain ⟨j,hj,rfl⟩:=List.mem_iff_getElem.1 hx
    exact H.out j _ (by rw [Hq.out] at hj;omega) (List.getElem?_eq_getElem hj)
   obtain ⟨q1,sU⟩:∃ q1:Nat,Hid (q=q1+1):=⟨q - 1,by show _=_;omega⟩
   have Kd:IntKind.i64.wrap ((q:Int) - 1)=(q1:Int):=by rw [Go.IntWalk.i64_in _ (by omega),sU.out];omega
   have hqq:q1 < q:=by rw [sU.out];omega
   have CE:(q1:Int) < (q:Int):=by omega
   have r0:∀ w',aa w1 w'->w'.cell? ⟨bc,q1,none⟩=some (.int .i64 (mv C)):=RC.out q1 _ (by have:=vY hp.out;rw [Hq.out,sU.out] at this;simpa using this)
   go_wp2
   go_ret
   exact ⟨by rw [Hr.out];rfl,K1.out.trans hK⟩
structure Two (w:World) (a:Option Addr) (n cap:Nat) (ts:List ar) (b:Option Addr) (m cap2:Nat) (ls:List Lk):Prop where
 t:fM w a n cap ts
 l:On w b m cap2 ls
theorem Two.keeps {w w':World} {a:Option Addr} {n cap:Nat} {ts:List ar} {b:Option Addr} {m cap2:Nat} {ls:List Lk} (h:Two w a n cap ts b m cap2 ls) (k:aa w w'):Two w' a n cap ts b m cap2 ls:=⟨h.t.keeps k,h.l.keeps k⟩
theorem Two.exec {w w':World} {a:Option Addr} {n cap:Nat} {ts:List ar} {b:Option Addr} {m cap2:Nat} {ls:List Lk} (h:Two w a n cap ts b m cap2 ls) (no:Int) {z:Int} (hz:ie ts ls no=z) (k:aa w w') :
  Calls Tryz.prog 203 #[.slice a n cap,.slice b m cap2,.int .i64 no] w' fun e w''=>e = .returned (.int .i64 z) /\ aa w' w'':=by
 have:=vU (h.keeps k).t (h.keeps k).l no
 rw [hz] at this
 exact this
theorem fM.there {w:World} {a:Option Addr} {n cap:Nat} {ts:List ar} (h:fM w a n cap ts) {x:Int} (hx:ct ts x=true):∃ (k:Nat) (b off:Nat),k < n /\ a=some ⟨b,off,none⟩ /\ dc ts x=(k:Int) /\ ts[k]?=some (dB ts x) /\ (dB ts x).no=x /\ (∀ w',aa w w'->w'.cell? ⟨b,off+k*14,none⟩=some (.int .i64 (dB ts x).no)) /\ ∀ w',aa w w'->∀ j,j < 14->w'.cell? ⟨b,off+k*14+j,none⟩=(tc (dB ts x))[j]?:=by
 obtain ⟨k,t,e,ht,hno⟩:=lQ.1 hx
 have e2:=lR e ht
 obtain ⟨b,off,rfl,r0,r1⟩:=h.lies.at ht (by omega)
 rw [e2]
 exact ⟨k,b,off,by rw [<- h.len];exact cZ ht,rfl,e,ht,hno,r0,r1⟩
set_option maxHeartbeats 2000000 in
theorem vZ {w:World} {a:Option Addr} {n cap:Nat} {ts:List ar} {b:Option Addr} {m cap2:Nat} {ls:List Lk} (h:Two w a n cap ts b m cap2 ls) (no:Int) :
  Calls Tryz.prog 199 #[.slice a n cap,.slice b m cap2,.int .i64 no] w fun e w'=>e = .returned (.bool (iS ts ls no)) /\ aa w w':=by
 have H:Hid (Two w a n cap ts b m cap2 ls):=h
 clear h
 obtain ⟨x,Hx⟩:∃ x,Hid (ie ts ls no=x):=⟨_,rfl⟩
 have Hr:Hid (iS ts ls no=(x != 0&&((dB ts no).st==1&&(dB ts x).st==1))):=by show _=_;unfold iS;rw [Hx.out]
 cases hx:(x != 0)
 ·have dE:Hid (iS ts ls no=false):=by show _=_;rw [Hr.out,hx];rfl
  go_enter Tryz.func199,Tryz.ntmps199
  go_wp2_with (go_at_call 203;refine (H.out.exec no Hx.out (aa.refl _)).mono ?_;rintro e w1 ⟨rfl,k1⟩)
  go_ret
  exact ⟨by rw [dE.out];rfl,k1⟩
 ·have th:=v9 (ts:=ts) (ls:=ls) (no:=no) (by rw [Hx.out];exact hx)
  rw [Hx.out] at th
  obtain ⟨k,b1,o1,hk,e,Hk,-,-,-,r1⟩:=H.out.t.there th.2.2.1
  subst e
  obtain ⟨j,b2,o2,hj,e,Hj,-,-,-,r2⟩:=H.out.t.there th.2.2.2
  simp only [Option.some.injEq,Addr.mk.injEq] at e
  obtain ⟨rfl,rfl,-⟩:=e
  have HK:Hid (dc ts no=(k:Int)):=Hk
  have HJ:Hid (dc ts x=(j:Int)):=Hj
  clear th Hk Hj
  have hk':(k:Int) < (n:Int):=by omega
  have hj':(j:Int) < (n:Int):=by omega
  cases h1:((dB ts no).st==1)
  ·have dE:Hid (iS ts ls no=false):=by show _=_;rw [Hr.out,h1,Bool.false_and,Bool.and_false]
   go_enter Tryz.func199,Tryz.ntmps199
   go_wp2_with (first
    | (go_at_call 203;refine (H.out.exec no Hx.out (aa.refl _)).mono ?_;rintro e w1 ⟨rfl,k1⟩)
    | (go_at_call 71;refine (H.out.t.aU no HK.out k1).mono ?_;rintro e w2 ⟨rfl,k2⟩;have K2:=k1.trans k2))
   go_ret
   exact ⟨by rw [dE.out];rfl,K2⟩
  ·have dE:Hid (iS ts ls no=((dB ts x).st==1)):=by show _=_;rw [Hr.out,hx,h1];rfl
   go_enter Tryz.func199,Tryz.ntmps199
   go_wp2_with (first
    | (go_at_call 203;refine (H.out.exec no Hx.out (aa.refl _)).mono ?_;rintro e w1 ⟨rfl,k1⟩)
    | (go_at_call 71;have k0:=k1;clear k1;refine (H.out.t.aU no HK.out k0).mono ?_;rintro e w2 ⟨rfl,k2⟩;have K2:=k0.trans k2)
    | (go_at_call 71;refine (H.out.t.aU x HJ.out K2).mono ?_;rintro e w3 ⟨rfl,k3⟩;have K3:=K2.trans k3))
   go_ret
   exact ⟨by rw [dE.out];rfl,K3⟩
theorem Two.my {w w':World} {a:Option Addr} {n cap:Nat} {ts:List ar} {b:Option Addr} {m cap2:Nat} {ls:List Lk} (h:Two w a n cap ts b m cap2 ls) (no:Int) {z:Bool} (hz:iS ts ls no=z) (k:aa w w') :
  Calls Tryz.prog 199 #[.slice a n cap,.slice b m cap2,.int .i64 no] w' fun e w''=>e = .returned (.bool z) /\ aa w' w'':=by
 have:=vZ (h.keeps k) no
 rw [hz] at this
 exact this
theorem CG {ts:List ar} {ls:List Lk} {no:Int} (h:iS ts ls no=true):ct ts no=true /\ ct ts (ie ts ls no)=true:=by
 unfold iS at h
 rw [Bool.and_eq_true] at h
 have:=v9 h.1
 exact ⟨this.2.2.1,this.2.2.2⟩
set_option maxHeartbeats 2000000 in
theorem CI {w:World} {a:Option Addr} {n cap:Nat} {ts:List ar} {b:Option Addr} {m cap2:Nat} {ls:List Lk} (h:Two w a n cap ts b m cap2 ls) (no:Int) :
  Calls Tryz.prog 215 #[.slice a n cap,.slice b m cap2,.int .i64 no] w fun e w'=>e = .returned (.bool (fO ts ls no)) /\ aa w w':=by
 have H:Hid (Two w a n cap ts b m cap2 ls):=h
 clear h
 cases h1:iS ts ls no
 ·have dE:Hid (fO ts ls no=false):=by show _=_;unfold fO;rw [h1];rfl
  go_enter Tryz.func215,Tryz.ntmps215
  go_wp2_with (go_at_call 199;refine (H.out.my no h1 (aa.refl _)).mono ?_;rintro e w1 ⟨rfl,k1⟩)
  go_ret
  exact ⟨by rw [dE.out];rfl,k1⟩
 ·have Hr:Hid (fO ts ls no=lu (dB ts no)):=by show _=_;unfold fO;rw [h1];rfl
  obtain ⟨k,b1,o1,hk,rfl,Hk,-,-,r0,r1⟩:=H.out.t.there (CG h1).1
  have HK:Hid (dc ts no=(k:Int)):=Hk
  clear Hk
  have hk':(k:Int) < (n:Int):=by omega
  generalize dB ts no=t at *
  cases h2:(t.cls != 1)
  ·have dE:Hid (fO ts ls no=decide (0 < t.left)):=by show _=_;rw [Hr.out];unfold lu;rw [h2];rfl
   go_enter Tryz.func215,Tryz.ntmps215
   go_wp2_with (first
    | (go_at_call 199;refine (H.out.my no h1 (aa.refl _)).mono ?_;rintro e w1 ⟨rfl,k1⟩)
    | (go_at_call 71;refine (H.out.t.aU no HK.out k1).mono ?_;rintro e w2 ⟨rfl,k2⟩;have K2:=k1.trans k2))
   go_ret
   exact ⟨by rw [dE.out];rfl,K2.alloc _⟩
  ·have dE:Hid (fO ts ls no=true):=by show _=_;rw [Hr.out];unfold lu;rw [h2];rfl
   go_enter Tryz.func215,Tryz.ntmps215
   go_wp2_with (first
    | (go_at_call 199;refine (H.out.my no h1 (aa.refl _)).mono ?_;rintro e w1 ⟨rfl,k1⟩)
    | (go_at_call 71;refine (H.out.t.aU no HK.out k1).mono ?_;rintro e w2 ⟨rfl,k2⟩;have K2:=k1.trans k2))
   go_ret
   exact ⟨by rw [dE.out];rfl,K2.alloc _⟩
theorem Two.can {w w':World} {a:Option Addr} {n cap:Nat} {ts:List ar} {b:Option Addr} {m cap2:Nat} {ls:List Lk} (h:Two w a n cap ts b m cap2 ls) (no:Int) {z:Bool} (hz:fO ts ls no=z) (k:aa w w') :
  Calls Tryz.prog 215 #[.slice a n cap,.slice b m cap2,.int .i64 no] w' fun e w''=>e = .returned (.bool z) /\ aa w' w'':=by
 have:=CI (h.keeps k) no
 rw [hz] at this
 exact this
set_option maxHeartbeats 4000000 in
theorem CJ {w:World} {a:Option Addr} {n cap:Nat} {ts:List ar} {b:Option Addr} {m cap2:Nat} {ls:List Lk} (h:Two w a n cap ts b m cap2 ls) (cpu:Int) :
  Calls Tryz.prog 202 #[.slice a n cap,.slice b m cap2,.int .i64 cpu] w fun e w'=>e = .returned (.int .i64 (lx ts ls cpu)) /\ aa w w':=by
 have H:Hid (Two w a n cap ts b m cap2 ls):=h
 have Hn:Hid (ts.length=n):=h.t.len
 have hn:n <= 9223372036854775807:=by rw [<- h.t.len];have:=h.t.small;unfold maxLen at this;omega
 clear h
 obtain ⟨bP,Hc⟩:∃ bP,Hid (sV ts ls cpu=bP):=⟨_,rfl⟩
 have HP:Hid (lx ts ls cpu=cJ ts bP n):=by show _=_;unfold lx;rw [Hc.out,Hn.out]
 go_enter Tryz.func202,Tryz.ntmps202
 go_wp2
 go_loopw [7,8] (fun at' i wr=>∃ (k:Nat) (A:Int),k <= n /\ i = .int .i64 k /\ at' = .int .i64 A /\ Hid (cJ ts bP k=A) /\ aa w wr) (fun _ i _=>n - (intOf i).toNat)
 case atStart=>exact ⟨0,-1,Nat.zero_le _,rfl,rfl,rfl,aa.refl _⟩
 case round =>
 obtain ⟨k,A,hk,rfl,rfl,HA,hK⟩:=hrel
 by_cases hlt:k < n
 ·have hlt':(k:Int) < (n:Int):=by omega
  obtain ⟨t,ht⟩:=iT (xs:=ts) (k:=k) (by rw [Hn.out];exact hlt)
  have hAr : -1 <= A /\ A < k:=by rw [<- HA.out];exact sW ts bP k
  have HS:Hid (cJ ts bP (k+1)=if (t.cpu==cpu&&fO ts ls t.no)&&(decide (A < 0)||dh t (ts.getD A.toNat ar.zero)) then (k:Int) else A):=by
   show _=_
   simp only [cJ,j2]
   rw [HA.out,mz ht,<- Hc.out]
   rfl
  obtain ⟨ba,off,rfl,all⟩:=H.out.t.all (by omega)
  have AL:Hid _:=all
  obtain ⟨r0,r1⟩:=all k t ht
  have Ht:Hid (ts[k]?=some t):=ht
  clear all ht
  cases c1:(t.cpu==cpu)
  ·have HT:Hid (cJ ts bP (k+1)=A):=by show _=_;rw [HS.out,c1];rfl
   go_wp2_with fail
   refine wp_region_held_drew (S:=(fun w'=>aa w w')) (by kernel_rfl) ?_ (fun hHeld => ?_)
   ·exact aa.drew (by assumption)
   refine ad.go [0,1,2,3,4,5,6,7] ?_
   iterate 8 (refine aM (h := ?_);try simp only [au])
   refine ad.nil ?_
   refine ad.go [8,9,10,11,12,13,14,15] ?_
   iterate 8 (refine dK (h := ?_);try simp only [au])
   refine ad.nil ?_
   refine ad.go [16,17] ?_
   iterate 2 (refine aM (h := ?_);try simp only [au])
   refine ad.nil ?_
   refine ad.go [18,19,20,21,22,23,24,25,26,27,28,29,30] ?_
   iterate 13 (refine dK (h := ?_);try simp only [au])
   refine ad.nil ?_
   refine di 31 (h := ?_)
   try simp only [au]
   refine wpAnyH_done (by kernel_rfl) ?_ _
   have K9:aa w wr.drew:=hK.drew
   go_wp2
   exact ⟨⟨k+1,_,by omega,by go_num,rfl,HT,K9⟩,by simp only [intOf];omega⟩
  cases c2:fO ts ls t.no
  ·have HT:Hid (cJ ts bP (k+1)=A):=by show _=_;rw [HS.out,c1,c2];rfl
   go_wp2_with fail
   refine wp_region_held_drew (S:=(fun w'=>aa w w')) (by kernel_rfl) ?_ (fun hHeld => ?_)
   ·exact aa.drew (by assumption)
   refine ad.go [0,1,2,3,4,5,6,7,8,9,10,11,12,13,14] ?_
   iterate 15 (refine aM (h := ?_);try simp only [au])
   refine ad.nil ?_
   refine aR 15 (h:=fun K hK => ?_)
   go_simp
   (go_at_call 215;refine (H.out.can t.no c2 (by assumption)).mono ?_;rintro e w5 ⟨rfl,hb5⟩)
   try go_wp2_with fail
   refine hK.out _ _ ?_ fun hHeld => ?_
   ·exact aa.trans (by assumption) (by assumption)
   clear hK K
   try simp only [au]
   refine ad.go [16,17] ?_
   iterate 2 (refine aM (h := ?_);try simp only [au])
   refine ad.nil ?_
   refine ad.go [18,19,20,21,22,23,24,25,26,27,28,29,30] ?_
   iterate 13 (refine dK (h := ?_);try simp only [au])
   refine ad.nil ?_
   refine di 31 (h := ?_)
   try simp only [au]
   refine wpAnyH_done (by kernel_rfl) ?_ _
   have K9:aa w w5:=by assumption
   go_wp2
   exact ⟨⟨k+1,_,by omega,by go_num,rfl,HT,K9⟩,by simp only [intOf];omega⟩
  cases c3:decide (A < 0)
  rotate_left
  ·have HT:Hid (cJ ts bP (k+1)=(k:Int)):=by show _=_;rw [HS.out,c1,c2,c3];rfl
   go_wp2_with fail
   refine wp_region_held_drew (S:=(fun w'=>aa w w')) (by kernel_rfl) ?_ (fun hHeld => ?_)
   ·exact aa.drew (by assumption)
   refine ad.go [0,1,2,3,4,5,6,7,8,9,10,11,12,13,14] ?_
   iterate 15 (refine aM (h := ?_);try simp only [au])
   refine ad.nil ?_
   refine aR 15 (h:=fun K hK => ?_)
   go_simp
   (go_at_call 215;refine (H.out.can t.no c2 (by assumption)).mono ?_;rintro e w5 ⟨rfl,hb5⟩)
   try go_wp2_with fail
   refine hK.out _ _ ?_ fun hHeld => ?_
   ·exact aa.trans (by assumption) (by assumption)
   clear hK K
   try simp only [au]
   refine ad.go [16,17,18,19,20] ?_
   iterate 5 (refine aM (h := ?_);try simp only [au])
   refine ad.nil ?_
   refine ad.go [21,22,23,24,25,26,27,28,29] ?_
   iterate 9 (refine dK (h := ?_);try simp only [au])
   refine ad.nil ?_
   refine ad.go [30,31] ?_
   iterate 2 (refine aM (h := ?_);try simp only [au])
   refine ad.nil ?_
   refine wpAnyH_done (by kernel_rfl) ?_ _
   have K9:aa w w5:=by assumption
   go_wp2
   exact ⟨⟨k+1,_,by omega,by go_num,rfl,HT,K9⟩,by simp only [intOf];omega⟩
  have hA0:0 <= A:=by simpa using c3
  obtain ⟨j,rfl⟩:=Int.eq_ofNat_of_zero_le hA0
  have hj:j < n:=by omega
  have hj':(j:Int) < (n:Int):=by omega
  obtain ⟨u,hu⟩:=iT (xs:=ts) (k:=j) (by rw [Hn.out];exact hj)
  obtain ⟨r2,r3⟩:=AL.out j u hu
  have eu:ts.getD (j:Int).toNat ar.zero=u:=by rw [Int.toNat_natCast];exact mz hu
  rw [eu] at HS
  clear hu eu
  cases c4:dh t u
  ·have HT:Hid (cJ ts bP (k+1)=(j:Int)):=by show _=_;rw [HS.out,c1,c2,c3,c4];rfl
   go_wp2_with fail
   refine wp_region_held_drew (S:=(fun w'=>aa w w')) (by kernel_rfl) ?_ (fun hHeld => ?_)
   ·exact aa.drew (by assumption)
   refine ad.go [0,1,2,3,4,5,6,7,8,9,10,11,12,13,14] ?_
   iterate 15 (refine aM (h := ?_);try simp only [au])
   refine ad.nil ?_
   refine aR 15 (h:=fun K hK => ?_)
   go_simp
   first
    | (go_at_call 215;refine (H.out.can t.no c2 (by assumption)).mono ?_;rintro e w5 ⟨rfl,hb5⟩)
    | (go_at_call 183;refine (lU t u _).mono ?_;rintro e w6 ⟨rfl,hb6⟩;rw [c4])
   try go_wp2_with fail
   refine hK.out _ _ ?_ fun hHeld => ?_
   ·exact aa.trans (by assumption) (by assumption)
   clear hK K
   try simp only [au]
   refine ad.go [16,17,18,19,20,21,22,23,24,25,26,27,28] ?_
   iterate 13 (refine aM (h := ?_);try simp only [au])
   refine ad.nil ?_
   refine aR 29 (h:=fun K hK => ?_)
   go_simp
   first
    | (go_at_call 215;refine (H.out.can t.no c2 (by assumption)).mono ?_;rintro e w5 ⟨rfl,hb5⟩)
    | (go_at_call 183;refine (lU t u _).mono ?_;rintro e w6 ⟨rfl,hb6⟩;rw [c4])
   try go_wp2_with fail
   refine hK.out _ _ ?_ fun hHeld => ?_
   ·exact aa.trans (by assumption) (by assumption)
   clear hK K
   try simp only [au]
   refine ad.go [30,31] ?_
   iterate 2 (refine aM (h := ?_);try simp only [au])
   refine ad.nil ?_
   refine wpAnyH_done (by kernel_rfl) ?_ _
   have K9:aa w w6:=by assumption
   go_wp2
   exact ⟨⟨k+1,_,by omega,by go_num,rfl,HT,K9⟩,by simp only [intOf];omega⟩
  ·have HT:Hid (cJ ts bP (k+1)=(k:Int)):=by show _=_;rw [HS.out,c1,c2,c3,c4];rfl
   go_wp2_with fail
   refine wp_region_held_drew (S:=(fun w'=>aa w w')) (by kernel_rfl) ?_ (fun hHeld => ?_)
   ·exact aa.drew (by assumption)
   refine ad.go [0,1,2,3,4,5,6,7,8,9,10,11,12,13,14] ?_
   iterate 15 (refine aM (h := ?_);try simp only [au])
   refine ad.nil ?_
   refine aR 15 (h:=fun K hK => ?_)
   go_simp
   first
    | (go_at_call 215;refine (H.out.can t.no c2 (by assumption)).mono ?_;rintro e w5 ⟨rfl,hb5⟩)
    | (go_at_call 183;refine (lU t u _).mono ?_;rintro e w6 ⟨rfl,hb6⟩;rw [c4])
   try go_wp2_with fail
   refine hK.out _ _ ?_ fun hHeld => ?_
   ·exact aa.trans (by assumption) (by assumption)
   clear hK K
   try simp only [au]
   refine ad.go [16,17,18,19,20,21,22,23,24,25,26,27,28] ?_
   iterate 13 (refine aM (h := ?_);try simp only [au])
   refine ad.nil ?_
   refine aR 29 (h:=fun K hK => ?_)
   go_simp
   first
    | (go_at_call 215;refine (H.out.can t.no c2 (by assumption)).mono ?_;rintro e w5 ⟨rfl,hb5⟩)
    | (go_at_call 183;refine (lU t u _).mono ?_;rintro e w6 ⟨rfl,hb6⟩;rw [c4])
   try go_wp2_with fail
   refine hK.out _ _ ?_ fun hHeld => ?_
   ·exact aa.trans (by assumption) (by assumption)
   clear hK K
   try simp only [au]
   refine ad.go [30,31] ?_
   iterate 2 (refine aM (h := ?_);try simp only [au])
   refine ad.nil ?_
   refine wpAnyH_done (by kernel_rfl) ?_ _
   have K9:aa w w6:=by assumption
   go_wp2
   exact ⟨⟨k+1,_,by omega,by go_num,rfl,HT,K9⟩,by simp only [intOf];omega⟩
 ·have e:k=n:=by omega
  subst e
  go_wp2
  go_ret
  exact ⟨by rw [HP.out,HA.out];rfl,hK⟩
set_option maxHeartbeats 4000000 in
theorem CK {w:World} {a:Option Addr} {n cap:Nat} {ts:List ar} (h:fM w a n cap ts) (b:Option Addr) (cap2:Nat) (xs:List Int) (hx:xs.length <= maxLen) (hs:Ns w b xs) :
  Calls Tryz.prog 152 #[.slice a n cap,.slice b xs.length cap2] w fun e w'=>e = .returned (.int .i64 (j3 ts xs)) /\ aa w w':=by
 have H:Hid (fM w a n cap ts):=h
 have Hn:Hid (ts.length=n):=h.len
 have hn:n <= 9223372036854775807:=by rw [<- h.len];have:=h.small;unfold maxLen at this;omega
 clear h
 have HX0:Hid (∀ x w',aa w w'->Calls Tryz.prog 147 #[.slice b xs.length cap2,.int .i64 x] w' fun e w''=>e = .returned (.bool (hasB xs x)) /\ aa w' w''):=fun x w' k=>nW b cap2 xs x w' hx (hs.keeps k)
 generalize hq:xs.length=q at HX0
 have Hq:Hid (xs.length=q):=hq
 clear hx hs hq
 cases hb:dz ts
 ·have Hr:Hid (j3 ts xs=0):=by show _=_;simp [j3,hb]
  go_enter Tryz.func152,Tryz.ntmps152
  go_wp2
  go_loopw [5,6] (fun at' i wr=>i = .int .i64 0 /\ at' = .int .i64 (-1) /\ wr=w) (fun _ _ _=>0)
  case atStart=>exact ⟨rfl,rfl,rfl⟩
  case round =>
  obtain ⟨rfl,rfl,hw⟩:=hrel
  have hw2:=hw.symm
  subst hw2
  clear hw
  by_cases hlt:0 < n
  ·have hlt':(0:Int) < (n:Int):=by omega
   go_wp2_with (go_at_call 28;refine (H.out.fP hb (aa.refl _)).mono ?_;rintro e w1 ⟨rfl,k1⟩)
   go_ret
   exact ⟨by rw [Hr.out];rfl,k1⟩
  ·have hlt':decide ((0:Int) < (n:Int))=false:=by simp;omega
   have hlt2:decide (0 < n)=false:=by simp;omega
   go_wp2
   go_ret
   exact ⟨by rw [Hr.out];rfl,aa.refl _⟩
 obtain ⟨bP,Hc⟩:∃ bP,Hid (we xs=bP):=⟨_,rfl⟩
 have HP:Hid (j3 ts xs=ly ts (cJ ts bP n)):=by show _=_;unfold j3;rw [hb,Hc.out,Hn.out];rfl
 go_enter Tryz.func152,Tryz.ntmps152
 go_wp2
 go_loopw [5,6] (fun at' i wr=>∃ (k:Nat) (A:Int),k <= n /\ i = .int .i64 k /\ at' = .int .i64 A /\ Hid (cJ ts bP k=A) /\ aa w wr) (fun _ i _=>n - (intOf i).toNat)
 case atStart=>exact ⟨0,-1,Nat.zero_le _,rfl,rfl,rfl,aa.refl _⟩
 case round =>
 obtain ⟨k,A,hk,rfl,rfl,HA,hK⟩:=hrel
 have hAr : -1 <= A /\ A < k:=by rw [<- HA.out];exact sW ts bP k
 by_cases hlt:k < n
 ·have hlt':(k:Int) < (n:Int):=by omega
  obtain ⟨t,ht⟩:=iT (xs:=ts) (k:=k) (by rw [Hn.out];exact hlt)
  have HS:Hid (cJ ts bP (k+1)=if hasB xs t.no&&(decide (A < 0)||dh t (ts.getD A.toNat ar.zero)) then (k:Int) else A):=by
   show _=_
   simp only [cJ,j2]
   rw [HA.out,mz ht,<- Hc.out]
   rfl
  obtain ⟨ba,off,rfl,all⟩:=H.out.all (by omega)
  have AL:Hid _:=all
  obtain ⟨r0,r1⟩:=all k t ht
  have Ht:Hid (ts[k]?=some t):=ht
  clear all ht
  obtain ⟨cc,nX⟩:∃ cc,Hid (hasB xs t.no=cc):=⟨_,rfl⟩
  rw [nX.out] at HS
  have HX:Hid (∀ w',aa w w'->Calls Tryz.prog 147 #[.slice b q cap2,.int .i64 t.no] w' fun e w''=>e = .returned (.bool cc) /\ aa w' w''):=fun w' k=>by rw [<- nX.out];exact HX0.out t.no w' k
  go_wp2_with (first
   | (go_at_call 28;refine (H.out.fP hb hK).mono ?_;rintro e w1 ⟨rfl,k1⟩;have K1:=hK.trans k1)
   | fail)
  clear hK k1
  cases cc
  ·have HT:Hid (cJ ts bP (k+1)=A):=by show _=_;rw [HS.out];rfl
   go_wp2_with fail
   refine wp_region_held_drew (S:=(fun w'=>aa w w')) (by kernel_rfl) ?_ (fun hHeld => ?_)
   ·exact aa.drew (by assumption)
   refine ad.go [0,1,2,3,4,5] ?_
   iterate 6 (refine aM (h := ?_);try simp only [au])
   refine ad.nil ?_
   refine aR 6 (h:=fun K hK => ?_)
   go_simp
   (go_at_call 147;refine (HX.out _ (by assumption)).mono ?_;rintro e w5 ⟨rfl,hb5⟩)
   try go_wp2_with fail
   refine hK.out _ _ ?_ fun hHeld => ?_
   ·exact aa.trans (by assumption) (by assumption)
   clear hK K
   try simp only [au]
   refine di 7 (h := ?_)
   try simp only [au]
   refine ad.go [8,9,10,11,12,13,14,15,16,17,18,19,20] ?_
   iterate 13 (refine dK (h := ?_);try simp only [au])
   refine ad.nil ?_
   refine di 21 (h := ?_)
   try simp only [au]
   refine wpAnyH_done (by kernel_rfl) ?_ _
   have K9:aa w w5:=by assumption
   go_wp2
   exact ⟨⟨k+1,_,by omega,by go_num,rfl,HT,K9⟩,by simp only [intOf];omega⟩
  cases c3:decide (A < 0)
  rotate_left
  ·have HT:Hid (cJ ts bP (k+1)=(k:Int)):=by show _=_;rw [HS.out,c3];rfl
   go_wp2_with fail
   refine wp_region_held_drew (S:=(fun w'=>aa w w')) (by kernel_rfl) ?_ (fun hHeld => ?_)
   ·exact aa.drew (by assumption)
   refine ad.go [0,1,2,3,4,5] ?_
   iterate 6 (refine aM (h := ?_);try simp only [au])
   refine ad.nil ?_
   refine aR 6 (h:=fun K hK => ?_)
   go_simp
   (go_at_call 147;refine (HX.out _ (by assumption)).mono ?_;rintro e w5 ⟨rfl,hb5⟩)
   try go_wp2_with fail
   refine hK.out _ _ ?_ fun hHeld => ?_
   ·exact aa.trans (by assumption) (by assumption)
   clear hK K
   try simp only [au]
   refine ad.go [7,8,9,10] ?_
   iterate 4 (refine aM (h := ?_);try simp only [au])
   refine ad.nil ?_
   refine ad.go [11,12,13,14,15,16,17,18,19] ?_
   iterate 9 (refine dK (h := ?_);try simp only [au])
   refine ad.nil ?_
   refine ad.go [20,21] ?_
   iterate 2 (refine aM (h := ?_);try simp only [au])
   refine ad.nil ?_
   refine wpAnyH_done (by kernel_rfl) ?_ _
   have K9:aa w w5:=by assumption
   go_wp2
   exact ⟨⟨k+1,_,by omega,by go_num,rfl,HT,K9⟩,by simp only [intOf];omega⟩
  have hA0:0 <= A:=by simpa using c3
  obtain ⟨j,rfl⟩:=Int.eq_ofNat_of_zero_le hA0
  have hj:j < n:=by omega
  have hj':(j:Int) < (n:Int):=by omega
  obtain ⟨u,hu⟩:=iT (xs:=ts) (k:=j) (by rw [Hn.out];exact hj)
  obtain ⟨r2,r3⟩:=AL.out j u hu
  have eu:ts.getD (j:Int).toNat ar.zero=u:=by rw [Int.toNat_natCast];exact mz hu
  rw [eu] at HS
  clear hu eu
  cases c4:dh t u
  ·have HT:Hid (cJ ts bP (k+1)=(j:Int)):=by show _=_;rw [HS.out,c3,c4];rfl
   go_wp2_with fail
   refine wp_region_held_drew (S:=(fun w'=>aa w w')) (by kernel_rfl) ?_ (fun hHeld => ?_)
   ·exact aa.drew (by assumption)
   refine ad.go [0,1,2,3,4,5] ?_
   iterate 6 (refine aM (h := ?_);try simp only [au])
   refine ad.nil ?_
   refine aR 6 (h:=fun K hK => ?_)
   go_simp
   first
    | (go_at_call 147;refine (HX.out _ (by assumption)).mono ?_;rintro e w5 ⟨rfl,hb5⟩)
    | (go_at_call 183;refine (lU t u _).mono ?_;rintro e w6 ⟨rfl,hb6⟩;rw [c4])
   try go_wp2_with fail
   refine hK.out _ _ ?_ fun hHeld => ?_
   ·exact aa.trans (by assumption) (by assumption)
   clear hK K
   try simp only [au]
   refine ad.go [7,8,9,10,11,12,13,14,15,16,17,18] ?_
   iterate 12 (refine aM (h := ?_);try simp only [au])
   refine ad.nil ?_
   refine aR 19 (h:=fun K hK => ?_)
   go_simp
   first
    | (go_at_call 147;refine (HX.out _ (by assumption)).mono ?_;rintro e w5 ⟨rfl,hb5⟩)
    | (go_at_call 183;refine (lU t u _).mono ?_;rintro e w6 ⟨rfl,hb6⟩;rw [c4])
   try go_wp2_with fail
   refine hK.out _ _ ?_ fun hHeld => ?_
   ·exact aa.trans (by assumption) (by assumption)
   clear hK K
   try simp only [au]
   refine ad.go [20,21] ?_
   iterate 2 (refine aM (h := ?_);try simp only [au])
   refine ad.nil ?_
   refine wpAnyH_done (by kernel_rfl) ?_ _
   have K9:aa w w6:=by assumption
   go_wp2
   exact ⟨⟨k+1,_,by omega,by go_num,rfl,HT,K9⟩,by simp only [intOf];omega⟩
  ·have HT:Hid (cJ ts bP (k+1)=(k:Int)):=by show _=_;rw [HS.out,c3,c4];rfl
   go_wp2_with fail
   refine wp_region_held_drew (S:=(fun w'=>aa w w')) (by kernel_rfl) ?_ (fun hHeld => ?_)
   ·exact aa.drew (by assumption)
   refine ad.go [0,1,2,3,4,5] ?_
   iterate 6 (refine aM (h := ?_);try simp only [au])
   refine ad.nil ?_
   refine aR 6 (h:=fun K hK => ?_)
   go_simp
   first
    | (go_at_call 147;refine (HX.out _ (by assumption)).mono ?_;rintro e w5 ⟨rfl,hb5⟩)
    | (go_at_call 183;refine (lU t u _).mono ?_;rintro e w6 ⟨rfl,hb6⟩;rw [c4])
   try go_wp2_with fail
   refine hK.out _ _ ?_ fun hHeld => ?_
   ·exact aa.trans (by assumption) (by assumption)
   clear hK K
   try simp only [au]
   refine ad.go [7,8,9,10,11,12,13,14,15,16,17,18] ?_
   iterate 12 (refine aM (h := ?_);try simp only [au])
   refine ad.nil ?_
   refine aR 19 (h:=fun K hK => ?_)
   go_simp
   first
    | (go_at_call 147;refine (HX.out _ (by assumption)).mono ?_;rintro e w5 ⟨rfl,hb5⟩)
    | (go_at_call 183;refine (lU t u _).mono ?_;rintro e w6 ⟨rfl,hb6⟩;rw [c4])
   try go_wp2_with fail
   refine hK.out _ _ ?_ fun hHeld => ?_
   ·exact aa.trans (by assumption) (by assumption)
   clear hK K
   try simp only [au]
   refine ad.go [20,21] ?_
   iterate 2 (refine aM (h := ?_);try simp only [au])
   refine ad.nil ?_
   refine wpAnyH_done (by kernel_rfl) ?_ _
   have K9:aa w w6:=by assumption
   go_wp2
   exact ⟨⟨k+1,_,by omega,by go_num,rfl,HT,K9⟩,by simp only [intOf];omega⟩
 ·have e:k=n:=by omega
  subst e
  have hlt':decide ((k:Int) < (k:Int))=false:=by simp
  cases c3:decide (A < 0)
  rotate_left
  ·have Hr:Hid (j3 ts xs=0):=by show _=_;rw [HP.out,HA.out];unfold ly;rw [if_pos (of_decide_eq_true c3)]
   go_wp2
   go_ret
   exact ⟨by rw [Hr.out];rfl,hK⟩
  ·have hA0:0 <= A:=by simpa using c3
   obtain ⟨j,rfl⟩:=Int.eq_ofNat_of_zero_le hA0
   have hj:j < k:=by omega
   have hj':(j:Int) < (k:Int):=by omega
   obtain ⟨u,hu⟩:=iT (xs:=ts) (k:=j) (by rw [Hn.out];exact hj)
   have Hr:Hid (j3 ts xs=u.no):=by show _=_;rw [HP.out,HA.out];unfold ly;rw [if_neg (of_decide_eq_false c3),Int.toNat_natCast,mz hu]
   obtain ⟨ba,off,rfl,all⟩:=H.out.all (by omega)
   obtain ⟨r0,r1⟩:=all j u hu
   clear all hu
   go_wp2
   go_ret
   exact ⟨by rw [Hr.out];rfl,hK⟩
end Go.Proofs.YteagpjlgjfaclaaGreatDoor
