/-
  A drawn task that may be wrong in one field: the contract o
  Picking: contracts of the model's Executor, Able and CanTur
  Picking: contracts of the model's Executor, Able, CanTurn,
-/
import Derived.Test.YteagpjlgjfaclaaGreatDoorTaskNew
import Derived.Test.YteagpjlgjfaclaaGreatDoorPickSpec
namespace Go.Proofs.YteagpjlgjfaclaaGreatDoor
set_option maxRecDepth 100000
open Go.RowKit
theorem DR.no {w W:World} {g r s:Nat} {t:ag} (h:DR w W g r s t) (x:Int):DR w (W.setCell ⟨s,0,none⟩ (.int .i64 x)) g r s { t with no:=x }:=h.cell 0 (by decide) _ (by simp)
theorem DR.cpu {w W:World} {g r s:Nat} {t:ag} (h:DR w W g r s t) (x:Int):DR w (W.setCell ⟨s,2,none⟩ (.int .i64 x)) g r s { t with cpu:=x }:=h.cell 2 (by decide) _ (by simp)
theorem DR.cls {w W:World} {g r s:Nat} {t:ag} (h:DR w W g r s t) (x:Int):DR w (W.setCell ⟨s,1,none⟩ (.int .i64 x)) g r s { t with cls:=x }:=h.cell 1 (by decide) _ (by simp)
theorem DR.due {w W:World} {g r s:Nat} {t:ag} (h:DR w W g r s t) (x:Int):DR w (W.setCell ⟨s,8,none⟩ (.int .i64 x)) g r s { t with due:=x }:=h.cell 8 (by decide) _ (by simp)
theorem DR.v {w W:World} {g r s:Nat} {t:ag} (h:DR w W g r s t) (x:Int):DR w (W.setCell ⟨s,13,none⟩ (.int .i64 x)) g r s { t with v:=x }:=h.cell 13 (by decide) _ (by simp)
theorem DR.prio {w W:World} {g r s:Nat} {t:ag} (h:DR w W g r s t) (x:Int):DR w (W.setCell ⟨s,9,none⟩ (.int .i64 x)) g r s { t with prio:=x }:=h.cell 9 (by decide) _ (by simp)
set_option maxHeartbeats 8000000 in
theorem uN (g:Nat) (w:World) (hc:bj w g) :
  Calls Tryz.prog 54 #[.pointer (some ⟨g,0,none⟩)] w fun e w'=>∃ t:ag,e = .returned (tk t) /\ bj w' g /\ ab g w w':=by
 have hgl:=hc.lt
 go_enter Tryz.func54,Tryz.ntmps54
 go_wp2_with fail
 have hc0:=hc.keeps ((aa.refl w).alloc (.cells (tc ag.zero) 43))
 have B0:=ai.new w (tc ag.zero) 43
 have re:=(ab.refl g w).alloc (.cells (tc ag.zero) 43)
 refine (zX g _ hc0).mono ?_
 rintro e w1 ⟨t,rfl,hc1,k1⟩
 have B1:=B0.but k1 (by omega)
 have zY:=re.trans k1
 have hr1:=B1.lt
 obtain ⟨r,Hr⟩:∃ r,Hid (w.heap.size=r):=⟨_,rfl⟩
 have hrr:=Hr.out
 rw [Hr.out] at B1 ⊢
 have S:DR w (w1.alloc (.cells (tc t) 43)) g r w1.heap.size t:=⟨hc1.keeps ((aa.refl _).alloc _),zY.alloc _,B1.alloc _,ai.new _ _ _,by omega,by omega,by omega⟩
 clear B0 B1 re zY hc0 hc1 k1 hc hrr hr1
 go_wp2_with fail
 change Calls _ _ _ (w1.alloc (.cells (tc t) 43)) _
 generalize w1.alloc (.cells (tc t) 43)=W at *
 generalize w1.heap.size=s at *
 refine (cF g _ _ S.cur (by omega) (by omega)).mono ?_
 rintro e w3 ⟨c,rfl,hx0,hx1,hc3,k3⟩
 have S:=S.but k3 hc3
 clear hc3 k3
 go_upto_block 0 with fail
 go_cut [] (fun wx=>∃ t:ag,DR w wx g r s t)
 case first =>
  obtain rfl | rfl | rfl | rfl | rfl | rfl | rfl | rfl | hc8:c=0∨c=1∨c=2∨c=3∨c=4∨c=5∨c=6∨c=7∨8 <= c:=by omega
  ·go_wp2_with fail
   refine (jb (fun _=>True) g [0,1000,1001] _ _ 3 3 _ _ rfl S.cur rfl (by decide) (by decide) rfl (by simp)).mono ?_
   rintro e w4 ⟨x,rfl,-,hc4,k4⟩
   have S:=S.but k4 hc4
   clear hc4 k4
   obtain ⟨q1,q2,f1,f2⟩:=S.rules
   have HS:Hid (DR w w4 g r s t):=S
   clear S
   go_wp2_with fail
   go_meet
   exact ⟨_,HS.out.no (x)⟩
  ·go_wp2_with fail
   refine (jb (fun _=>True) g [-1,3,4] _ _ 3 3 _ _ rfl S.cur rfl (by decide) (by decide) rfl (by simp)).mono ?_
   rintro e w4 ⟨x,rfl,-,hc4,k4⟩
   have S:=S.but k4 hc4
   clear hc4 k4
   obtain ⟨q1,q2,f1,f2⟩:=S.rules
   have HS:Hid (DR w w4 g r s t):=S
   clear S
   go_wp2_with fail
   go_meet
   exact ⟨_,HS.out.cpu (x)⟩
  ·go_wp2_with fail
   refine (cF g _ _ S.cur (by omega) (by omega)).mono ?_
   rintro e w4 ⟨x,rfl,hy0,hy1,hc4,k4⟩
   have S:=S.but k4 hc4
   clear hc4 k4
   obtain ⟨q1,q2,f1,f2⟩:=S.rules
   have HS:Hid (DR w w4 g r s t):=S
   clear S
   go_wp2_with fail
   go_meet
   exact ⟨_,HS.out.st (x)⟩
  ·go_wp2_with fail
   refine (cF g _ _ S.cur (by omega) (by omega)).mono ?_
   rintro e w4 ⟨x,rfl,hy0,hy1,hc4,k4⟩
   have S:=S.but k4 hc4
   clear hc4 k4
   obtain ⟨q1,q2,f1,f2⟩:=S.rules
   have HS:Hid (DR w w4 g r s t):=S
   clear S
   go_wp2_with fail
   go_meet
   exact ⟨_,HS.out.cls (x)⟩
  ·go_wp2_with fail
   refine (cF g _ _ S.cur (by omega) (by omega)).mono ?_
   rintro e w4 ⟨x,rfl,hy0,hy1,hc4,k4⟩
   have S:=S.but k4 hc4
   clear hc4 k4
   obtain ⟨q1,q2,f1,f2⟩:=S.rules
   have HS:Hid (DR w w4 g r s t):=S
   clear S
   go_wp2_with fail
   go_meet
   exact ⟨_,HS.out.left (x - 2)⟩
  ·go_wp2_with fail
   refine (jb (fun _=>True) g [-1,5,100040,100041] _ _ 4 4 _ _ rfl S.cur rfl (by decide) (by decide) rfl (by simp)).mono ?_
   rintro e w4 ⟨x,rfl,-,hc4,k4⟩
   have S:=S.but k4 hc4
   clear hc4 k4
   obtain ⟨q1,q2,f1,f2⟩:=S.rules
   have HS:Hid (DR w w4 g r s t):=S
   clear S
   go_wp2_with fail
   go_meet
   exact ⟨_,HS.out.due (x)⟩
  ·go_wp2_with fail
   refine (jb (fun _=>True) g [-1,5,100000000,100000001,99999990] _ _ 5 5 _ _ rfl S.cur rfl (by decide) (by decide) rfl (by simp)).mono ?_
   rintro e w4 ⟨x,rfl,-,hc4,k4⟩
   have S:=S.but k4 hc4
   clear hc4 k4
   obtain ⟨q1,q2,f1,f2⟩:=S.rules
   have HS:Hid (DR w w4 g r s t):=S
   clear S
   go_wp2_with fail
   go_meet
   exact ⟨_,HS.out.v (x)⟩
  ·go_wp2_with fail
   refine (cF g _ _ S.cur (by omega) (by omega)).mono ?_
   rintro e w4 ⟨x,rfl,hy0,hy1,hc4,k4⟩
   have S:=S.but k4 hc4
   clear hc4 k4
   obtain ⟨q1,q2,f1,f2⟩:=S.rules
   have HS:Hid (DR w w4 g r s t):=S
   clear S
   go_wp2_with fail
   go_meet
   exact ⟨_,HS.out.prio (x)⟩
  ·have n0:(c==0)=false:=by simp;omega
   have n1:(c==1)=false:=by simp;omega
   have n2:(c==2)=false:=by simp;omega
   have n3:(c==3)=false:=by simp;omega
   have n4:(c==4)=false:=by simp;omega
   have n5:(c==5)=false:=by simp;omega
   have n6:(c==6)=false:=by simp;omega
   have n7:(c==7)=false:=by simp;omega
   go_wp2_with fail
   go_meet
   exact ⟨_,S⟩
 case rest =>
 obtain ⟨u,S⟩:=hcut
 generalize wc=W9 at *
 obtain ⟨q1,q2,f1,f2⟩:=S.rules
 have HS:Hid (DR w W9 g r s u):=S
 clear S
 go_wp2
 have T:=HS.out.done
 change bodyPost _ _ _ _ _ (putT W9 r u)
 generalize putT W9 r u=X at T ⊢
 obtain ⟨T1,T2,T3⟩:=T
 exact bodyPost_ret (v:=tk u) (by simp [results,Tryz.results54,go_sem,T1.cells]) rfl ⟨_,rfl,T2,T3⟩
section
attribute [local go_sem] aa.refl aa.alloc aa.drew aa.drewN
set_option maxHeartbeats 2000000 in
theorem zZ {w:World} {a:Option Addr} {n cap:Nat} {ts:List ag} {b:Option Addr} {m cap2:Nat} {ls:List Lk} (T:fk w a n cap ts) (L:On w b m cap2 ls) (no:Int) :
  Calls Tryz.prog 203 #[.slice a n cap,.slice b m cap2,.int .i64 no] w fun e w'=>e = .returned (.int .i64 (gx ts ls no)) /\ aa w w':=by
 have HT:Hid (fk w a n cap ts):=T
 have HL:Hid (On w b m cap2 ls):=L
 clear T L
 obtain ⟨C,HC⟩:∃ C,Hid (ig ls no=C):=⟨_,rfl⟩
 have hp:Hid (0 < C.length):=by show _ < _;rw [<- HC.out];exact vm ls no
 have hle:Hid (C.length <= m+2):=by show _ <= _;rw [<- HC.out];have:=z9 ls (ls.length+1) no;have:=HL.out.len;unfold ig;omega
 have hm:Hid (m <= 2097152):=by show _ <= _;rw [<- HL.out.len];have:=nr ls;have:=HL.out.size;omega
 have hE:Hid (gx ts ls no=if C.all (bF ts) then lj C else 0):=by show _=_;unfold gx;rw [HC.out]
 go_enter Tryz.func203,Tryz.ntmps203
 go_wp2_with fail
 refine (HL.out.oD no (aa.refl _)).mono ?_
 rintro e w1 ⟨v,rfl,o1,k1⟩
 have Aa:aS w1 w.heap.size v C:=by rw [<- HC.out];exact o1
 clear o1
 obtain ⟨bc,cc,rfl,hqc,rc⟩:=aS.cells Aa hp.out
 obtain ⟨q,Hq⟩:∃ q,Hid (C.length=q):=⟨_,rfl⟩
 rw [Hq.out] at hqc ⊢
 have hq0:0 < q:=by rw [<- Hq.out];exact hp.out
 have hq1:q <= 4000000:=by rw [<- Hq.out];have:=hle.out;have:=hm.out;omega
 have RC:Hid (∀ (k:Nat) (x:Int),C[k]?=some x->∀ w',aa w1 w'->w'.cell? ⟨bc,k,none⟩=some (.int .i64 x)):=rc
 have K1:Hid (aa w w1):=k1
 clear Aa rc k1
 go_wp2
 go_loopw [9] (fun i wr=>∃ k:Nat,k <= q /\ i = .int .i64 k /\ aa w1 wr /\ Hid (∀ j x,j < k->C[j]?=some x->bF ts x=true)) (fun i _=>q - (intOf i).toNat)
 case atStart=>exact ⟨0,Nat.zero_le _,rfl,aa.refl _,fun j x hj=>by omega⟩
 case round =>
  obtain ⟨k,hk,rfl,hK,H⟩:=hrel
  by_cases hlt:k < q
  ·have hlt':(k:Int) < (q:Int):=by omega
   obtain ⟨x,hx⟩:=bW (xs:=C) (k:=k) (by rw [Hq.out];exact hlt)
   have r0:∀ w',aa w1 w'->w'.cell? ⟨bc,k,none⟩=some (.int .i64 x):=RC.out k x hx
   have Hx:Hid (C[k]?=some x):=hx
   clear hx
   obtain ⟨z,Hz⟩:∃ z,Hid (dA ts x=z):=⟨_,rfl⟩
   cases hn:decide (z < 0)
   ·have hth:bF ts x=true:=by unfold bF;rw [Hz.out,hn];rfl
    go_wp2_with (go_at_call 71;refine (HT.out.aZ x Hz.out (K1.out.trans hK)).mono ?_;rintro e w2 ⟨rfl,k2⟩)
    exact ⟨⟨k+1,by omega,by go_num,hK.trans k2,fun j y hj hy=>by
     by_cases e:j=k
     ·subst e;rw [Hx.out] at hy;cases hy;exact hth
     ·exact H.out j y (by omega) hy⟩,by simp only [intOf];omega⟩
   ·have hth:bF ts x=false:=by unfold bF;rw [Hz.out,hn];rfl
    have Hr:Hid (gx ts ls no=0):=by
     show _=_
     rw [hE.out,if_neg]
     rw [List.all_eq_true]
     intro h
     have:=h x (List.mem_of_getElem? Hx.out)
     rw [hth] at this
     cases this
    go_wp2_with (go_at_call 71;refine (HT.out.aZ x Hz.out (K1.out.trans hK)).mono ?_;rintro e w2 ⟨rfl,k2⟩)
    go_ret
    exact ⟨by rw [Hr.out];rfl,K1.out.trans (hK.trans k2)⟩
  ·have Hr:Hid (gx ts ls no=lj C):=by
    show _=_
    rw [hE.out,if_pos]
    rw [List.all_eq_true]
    intro x hx
    obtain ⟨j,hj,rfl⟩:=List.mem_iff_getElem.1 hx
    exact H.out j _ (by rw [Hq.out] at hj;omega) (List.getElem?_eq_getElem hj)
   obtain ⟨q1,vn⟩:∃ q1:Nat,Hid (q=q1+1):=⟨q - 1,by show _=_;omega⟩
   have Pu:IntKind.i64.wrap ((q:Int) - 1)=(q1:Int):=by rw [Go.IntWalk.i64_in _ (by omega),vn.out];omega
   have hqq:q1 < q:=by rw [vn.out];omega
   have Hh:(q1:Int) < (q:Int):=by omega
   have r0:∀ w',aa w1 w'->w'.cell? ⟨bc,q1,none⟩=some (.int .i64 (lj C)):=RC.out q1 _ (by have:=rf hp.out;rw [Hq.out,vn.out] at this;simpa using this)
   go_wp2
   go_ret
   exact ⟨by rw [Hr.out];rfl,K1.out.trans hK⟩
structure Two (w:World) (a:Option Addr) (n cap:Nat) (ts:List ag) (b:Option Addr) (m cap2:Nat) (ls:List Lk):Prop where
 t:fk w a n cap ts
 l:On w b m cap2 ls
theorem Two.keeps {w w':World} {a:Option Addr} {n cap:Nat} {ts:List ag} {b:Option Addr} {m cap2:Nat} {ls:List Lk} (h:Two w a n cap ts b m cap2 ls) (k:aa w w'):Two w' a n cap ts b m cap2 ls:=⟨h.t.keeps k,h.l.keeps k⟩
theorem Two.exec {w w':World} {a:Option Addr} {n cap:Nat} {ts:List ag} {b:Option Addr} {m cap2:Nat} {ls:List Lk} (h:Two w a n cap ts b m cap2 ls) (no:Int) {z:Int} (hz:gx ts ls no=z) (k:aa w w') :
  Calls Tryz.prog 203 #[.slice a n cap,.slice b m cap2,.int .i64 no] w' fun e w''=>e = .returned (.int .i64 z) /\ aa w' w'':=by
 have:=zZ (h.keeps k).t (h.keeps k).l no
 rw [hz] at this
 exact this
theorem fk.there {w:World} {a:Option Addr} {n cap:Nat} {ts:List ag} (h:fk w a n cap ts) {x:Int} (hx:bF ts x=true):∃ (k:Nat) (b off:Nat),k < n /\ a=some ⟨b,off,none⟩ /\ dA ts x=(k:Int) /\ ts[k]?=some (de ts x) /\ (de ts x).no=x /\ (∀ w',aa w w'->w'.cell? ⟨b,off+k*14,none⟩=some (.int .i64 (de ts x).no)) /\ ∀ w',aa w w'->∀ j,j < 14->w'.cell? ⟨b,off+k*14+j,none⟩=(tc (de ts x))[j]?:=by
 obtain ⟨k,t,e,ht,hno⟩:=jL.1 hx
 have e2:=kh e ht
 obtain ⟨b,off,rfl,r0,r1⟩:=h.lies.at ht (by omega)
 rw [e2]
 exact ⟨k,b,off,by rw [<- h.len];exact da ht,rfl,e,ht,hno,r0,r1⟩
set_option maxHeartbeats 2000000 in
theorem Ab {w:World} {a:Option Addr} {n cap:Nat} {ts:List ag} {b:Option Addr} {m cap2:Nat} {ls:List Lk} (h:Two w a n cap ts b m cap2 ls) (no:Int) :
  Calls Tryz.prog 199 #[.slice a n cap,.slice b m cap2,.int .i64 no] w fun e w'=>e = .returned (.bool (jx ts ls no)) /\ aa w w':=by
 have H:Hid (Two w a n cap ts b m cap2 ls):=h
 clear h
 obtain ⟨x,Hx⟩:∃ x,Hid (gx ts ls no=x):=⟨_,rfl⟩
 have Hr:Hid (jx ts ls no=(x != 0&&((de ts no).st==1&&(de ts x).st==1))):=by show _=_;unfold jx;rw [Hx.out]
 cases hx:(x != 0)
 ·have dS:Hid (jx ts ls no=false):=by show _=_;rw [Hr.out,hx];rfl
  go_enter Tryz.func199,Tryz.ntmps199
  go_wp2_with (go_at_call 203;refine (H.out.exec no Hx.out (aa.refl _)).mono ?_;rintro e w1 ⟨rfl,k1⟩)
  go_ret
  exact ⟨by rw [dS.out];rfl,k1⟩
 ·have th:=Ac (ts:=ts) (ls:=ls) (no:=no) (by rw [Hx.out];exact hx)
  rw [Hx.out] at th
  obtain ⟨k,b1,o1,hk,e,Hk,-,-,-,r1⟩:=H.out.t.there th.2.2.1
  subst e
  obtain ⟨j,b2,o2,hj,e,Hj,-,-,-,r2⟩:=H.out.t.there th.2.2.2
  simp only [Option.some.injEq,Addr.mk.injEq] at e
  obtain ⟨rfl,rfl,-⟩:=e
  have HK:Hid (dA ts no=(k:Int)):=Hk
  have HJ:Hid (dA ts x=(j:Int)):=Hj
  clear th Hk Hj
  have hk':(k:Int) < (n:Int):=by omega
  have hj':(j:Int) < (n:Int):=by omega
  cases h1:((de ts no).st==1)
  ·have dS:Hid (jx ts ls no=false):=by show _=_;rw [Hr.out,h1,Bool.false_and,Bool.and_false]
   go_enter Tryz.func199,Tryz.ntmps199
   go_wp2_with (first
    | (go_at_call 203;refine (H.out.exec no Hx.out (aa.refl _)).mono ?_;rintro e w1 ⟨rfl,k1⟩)
    | (go_at_call 71;refine (H.out.t.aZ no HK.out k1).mono ?_;rintro e w2 ⟨rfl,k2⟩;have K2:=k1.trans k2))
   go_ret
   exact ⟨by rw [dS.out];rfl,K2⟩
  ·have dS:Hid (jx ts ls no=((de ts x).st==1)):=by show _=_;rw [Hr.out,hx,h1];rfl
   go_enter Tryz.func199,Tryz.ntmps199
   go_wp2_with (first
    | (go_at_call 203;refine (H.out.exec no Hx.out (aa.refl _)).mono ?_;rintro e w1 ⟨rfl,k1⟩)
    | (go_at_call 71;have k0:=k1;clear k1;refine (H.out.t.aZ no HK.out k0).mono ?_;rintro e w2 ⟨rfl,k2⟩;have K2:=k0.trans k2)
    | (go_at_call 71;refine (H.out.t.aZ x HJ.out K2).mono ?_;rintro e w3 ⟨rfl,k3⟩;have K3:=K2.trans k3))
   go_ret
   exact ⟨by rw [dS.out];rfl,K3⟩
theorem Two.oE {w w':World} {a:Option Addr} {n cap:Nat} {ts:List ag} {b:Option Addr} {m cap2:Nat} {ls:List Lk} (h:Two w a n cap ts b m cap2 ls) (no:Int) {z:Bool} (hz:jx ts ls no=z) (k:aa w w') :
  Calls Tryz.prog 199 #[.slice a n cap,.slice b m cap2,.int .i64 no] w' fun e w''=>e = .returned (.bool z) /\ aa w' w'':=by
 have:=Ab (h.keeps k) no
 rw [hz] at this
 exact this
theorem Hu {ts:List ag} {ls:List Lk} {no:Int} (h:jx ts ls no=true):bF ts no=true /\ bF ts (gx ts ls no)=true:=by
 unfold jx at h
 rw [Bool.and_eq_true] at h
 have:=Ac h.1
 exact ⟨this.2.2.1,this.2.2.2⟩
set_option maxHeartbeats 2000000 in
theorem H4 {w:World} {a:Option Addr} {n cap:Nat} {ts:List ag} {b:Option Addr} {m cap2:Nat} {ls:List Lk} (h:Two w a n cap ts b m cap2 ls) (no:Int) :
  Calls Tryz.prog 215 #[.slice a n cap,.slice b m cap2,.int .i64 no] w fun e w'=>e = .returned (.bool (gD ts ls no)) /\ aa w w':=by
 have H:Hid (Two w a n cap ts b m cap2 ls):=h
 clear h
 cases h1:jx ts ls no
 ·have dS:Hid (gD ts ls no=false):=by show _=_;unfold gD;rw [h1];rfl
  go_enter Tryz.func215,Tryz.ntmps215
  go_wp2_with (go_at_call 199;refine (H.out.oE no h1 (aa.refl _)).mono ?_;rintro e w1 ⟨rfl,k1⟩)
  go_ret
  exact ⟨by rw [dS.out];rfl,k1⟩
 ·have Hr:Hid (gD ts ls no=mB (de ts no)):=by show _=_;unfold gD;rw [h1];rfl
  obtain ⟨k,b1,o1,hk,rfl,Hk,-,-,r0,r1⟩:=H.out.t.there (Hu h1).1
  have HK:Hid (dA ts no=(k:Int)):=Hk
  clear Hk
  have hk':(k:Int) < (n:Int):=by omega
  generalize de ts no=t at *
  cases h2:(t.cls != 1)
  ·have dS:Hid (gD ts ls no=decide (0 < t.left)):=by show _=_;rw [Hr.out];unfold mB;rw [h2];rfl
   go_enter Tryz.func215,Tryz.ntmps215
   go_wp2_with (first
    | (go_at_call 199;refine (H.out.oE no h1 (aa.refl _)).mono ?_;rintro e w1 ⟨rfl,k1⟩)
    | (go_at_call 71;refine (H.out.t.aZ no HK.out k1).mono ?_;rintro e w2 ⟨rfl,k2⟩;have K2:=k1.trans k2))
   go_ret
   exact ⟨by rw [dS.out];rfl,K2.alloc _⟩
  ·have dS:Hid (gD ts ls no=true):=by show _=_;rw [Hr.out];unfold mB;rw [h2];rfl
   go_enter Tryz.func215,Tryz.ntmps215
   go_wp2_with (first
    | (go_at_call 199;refine (H.out.oE no h1 (aa.refl _)).mono ?_;rintro e w1 ⟨rfl,k1⟩)
    | (go_at_call 71;refine (H.out.t.aZ no HK.out k1).mono ?_;rintro e w2 ⟨rfl,k2⟩;have K2:=k1.trans k2))
   go_ret
   exact ⟨by rw [dS.out];rfl,K2.alloc _⟩
theorem Two.can {w w':World} {a:Option Addr} {n cap:Nat} {ts:List ag} {b:Option Addr} {m cap2:Nat} {ls:List Lk} (h:Two w a n cap ts b m cap2 ls) (no:Int) {z:Bool} (hz:gD ts ls no=z) (k:aa w w') :
  Calls Tryz.prog 215 #[.slice a n cap,.slice b m cap2,.int .i64 no] w' fun e w''=>e = .returned (.bool z) /\ aa w' w'':=by
 have:=H4 (h.keeps k) no
 rw [hz] at this
 exact this
set_option maxHeartbeats 4000000 in
theorem H7 {w:World} {a:Option Addr} {n cap:Nat} {ts:List ag} {b:Option Addr} {m cap2:Nat} {ls:List Lk} (h:Two w a n cap ts b m cap2 ls) (cpu:Int) :
  Calls Tryz.prog 202 #[.slice a n cap,.slice b m cap2,.int .i64 cpu] w fun e w'=>e = .returned (.int .i64 (qc5 ts ls cpu)) /\ aa w w':=by
 have H:Hid (Two w a n cap ts b m cap2 ls):=h
 have Hn:Hid (ts.length=n):=h.t.len
 have hn:n <= 9223372036854775807:=by rw [<- h.t.len];have:=h.t.small;unfold maxLen at this;omega
 clear h
 obtain ⟨bZ,Hc⟩:∃ bZ,Hid (vp ts ls cpu=bZ):=⟨_,rfl⟩
 have HP:Hid (qc5 ts ls cpu=dr ts bZ n):=by show _=_;unfold qc5;rw [Hc.out,Hn.out]
 go_enter Tryz.func202,Tryz.ntmps202
 go_wp2
 go_loopw [7,8] (fun at' i wr=>∃ (k:Nat) (A:Int),k <= n /\ i = .int .i64 k /\ at' = .int .i64 A /\ Hid (dr ts bZ k=A) /\ aa w wr) (fun _ i _=>n - (intOf i).toNat)
 case atStart=>exact ⟨0,-1,Nat.zero_le _,rfl,rfl,rfl,aa.refl _⟩
 case round =>
 obtain ⟨k,A,hk,rfl,rfl,HA,hK⟩:=hrel
 by_cases hlt:k < n
 ·have hlt':(k:Int) < (n:Int):=by omega
  obtain ⟨t,ht⟩:=iW (xs:=ts) (k:=k) (by rw [Hn.out];exact hlt)
  have hAr : -1 <= A /\ A < k:=by rw [<- HA.out];exact vq ts bZ k
  have HS:Hid (dr ts bZ (k+1)=if (t.cpu==cpu&&gD ts ls t.no)&&(decide (A < 0)||bh t (ts.getD A.toNat ag.zero)) then (k:Int) else A):=by
   show _=_
   simp only [dr,lr]
   rw [HA.out,lU ht,<- Hc.out]
   rfl
  obtain ⟨ba,off,rfl,all⟩:=H.out.t.all (by omega)
  have AL:Hid _:=all
  obtain ⟨r0,r1⟩:=all k t ht
  have Ht:Hid (ts[k]?=some t):=ht
  clear all ht
  cases c1:(t.cpu==cpu)
  ·have HT:Hid (dr ts bZ (k+1)=A):=by show _=_;rw [HS.out,c1];rfl
   go_wp2_with fail
   refine wp_region_held_drew (S:=(fun w'=>aa w w')) (by kernel_rfl) ?_ (fun hHeld => ?_)
   ·exact aa.drew (by assumption)
   refine ad.go [0,1,2,3,4,5,6,7] ?_
   iterate 8 (refine aJ (h := ?_);try simp only [ar])
   refine ad.nil ?_
   refine ad.go [8,9,10,11,12,13,14,15] ?_
   iterate 8 (refine dB (h := ?_);try simp only [ar])
   refine ad.nil ?_
   refine ad.go [16,17] ?_
   iterate 2 (refine aJ (h := ?_);try simp only [ar])
   refine ad.nil ?_
   refine ad.go [18,19,20,21,22,23,24,25,26,27,28,29,30] ?_
   iterate 13 (refine dB (h := ?_);try simp only [ar])
   refine ad.nil ?_
   refine cU 31 (h := ?_)
   try simp only [ar]
   refine wpAnyH_done (by kernel_rfl) ?_ _
   have K9:aa w wr.drew:=hK.drew
   go_wp2
   exact ⟨⟨k+1,_,by omega,by go_num,rfl,HT,K9⟩,by simp only [intOf];omega⟩
  cases c2:gD ts ls t.no
  ·have HT:Hid (dr ts bZ (k+1)=A):=by show _=_;rw [HS.out,c1,c2];rfl
   go_wp2_with fail
   refine wp_region_held_drew (S:=(fun w'=>aa w w')) (by kernel_rfl) ?_ (fun hHeld => ?_)
   ·exact aa.drew (by assumption)
   refine ad.go [0,1,2,3,4,5,6,7,8,9,10,11,12,13,14] ?_
   iterate 15 (refine aJ (h := ?_);try simp only [ar])
   refine ad.nil ?_
   refine aO 15 (h:=fun K hK => ?_)
   go_simp
   (go_at_call 215;refine (H.out.can t.no c2 (by assumption)).mono ?_;rintro e w5 ⟨rfl,hb5⟩)
   try go_wp2_with fail
   refine hK.out _ _ ?_ fun hHeld => ?_
   ·exact aa.trans (by assumption) (by assumption)
   clear hK K
   try simp only [ar]
   refine ad.go [16,17] ?_
   iterate 2 (refine aJ (h := ?_);try simp only [ar])
   refine ad.nil ?_
   refine ad.go [18,19,20,21,22,23,24,25,26,27,28,29,30] ?_
   iterate 13 (refine dB (h := ?_);try simp only [ar])
   refine ad.nil ?_
   refine cU 31 (h := ?_)
   try simp only [ar]
   refine wpAnyH_done (by kernel_rfl) ?_ _
   have K9:aa w w5:=by assumption
   go_wp2
   exact ⟨⟨k+1,_,by omega,by go_num,rfl,HT,K9⟩,by simp only [intOf];omega⟩
  cases c3:decide (A < 0)
  rotate_left
  ·have HT:Hid (dr ts bZ (k+1)=(k:Int)):=by show _=_;rw [HS.out,c1,c2,c3];rfl
   go_wp2_with fail
   refine wp_region_held_drew (S:=(fun w'=>aa w w')) (by kernel_rfl) ?_ (fun hHeld => ?_)
   ·exact aa.drew (by assumption)
   refine ad.go [0,1,2,3,4,5,6,7,8,9,10,11,12,13,14] ?_
   iterate 15 (refine aJ (h := ?_);try simp only [ar])
   refine ad.nil ?_
   refine aO 15 (h:=fun K hK => ?_)
   go_simp
   (go_at_call 215;refine (H.out.can t.no c2 (by assumption)).mono ?_;rintro e w5 ⟨rfl,hb5⟩)
   try go_wp2_with fail
   refine hK.out _ _ ?_ fun hHeld => ?_
   ·exact aa.trans (by assumption) (by assumption)
   clear hK K
   try simp only [ar]
   refine ad.go [16,17,18,19,20] ?_
   iterate 5 (refine aJ (h := ?_);try simp only [ar])
   refine ad.nil ?_
   refine ad.go [21,22,23,24,25,26,27,28,29] ?_
   iterate 9 (refine dB (h := ?_);try simp only [ar])
   refine ad.nil ?_
   refine ad.go [30,31] ?_
   iterate 2 (refine aJ (h := ?_);try simp only [ar])
   refine ad.nil ?_
   refine wpAnyH_done (by kernel_rfl) ?_ _
   have K9:aa w w5:=by assumption
   go_wp2
   exact ⟨⟨k+1,_,by omega,by go_num,rfl,HT,K9⟩,by simp only [intOf];omega⟩
  have hA0:0 <= A:=by simpa using c3
  obtain ⟨j,rfl⟩:=Int.eq_ofNat_of_zero_le hA0
  have hj:j < n:=by omega
  have hj':(j:Int) < (n:Int):=by omega
  obtain ⟨u,hu⟩:=iW (xs:=ts) (k:=j) (by rw [Hn.out];exact hj)
  obtain ⟨r2,r3⟩:=AL.out j u hu
  have eu:ts.getD (j:Int).toNat ag.zero=u:=by rw [Int.toNat_natCast];exact lU hu
  rw [eu] at HS
  clear hu eu
  cases c4:bh t u
  ·have HT:Hid (dr ts bZ (k+1)=(j:Int)):=by show _=_;rw [HS.out,c1,c2,c3,c4];rfl
   go_wp2_with fail
   refine wp_region_held_drew (S:=(fun w'=>aa w w')) (by kernel_rfl) ?_ (fun hHeld => ?_)
   ·exact aa.drew (by assumption)
   refine ad.go [0,1,2,3,4,5,6,7,8,9,10,11,12,13,14] ?_
   iterate 15 (refine aJ (h := ?_);try simp only [ar])
   refine ad.nil ?_
   refine aO 15 (h:=fun K hK => ?_)
   go_simp
   first
    | (go_at_call 215;refine (H.out.can t.no c2 (by assumption)).mono ?_;rintro e w5 ⟨rfl,hb5⟩)
    | (go_at_call 183;refine (nt t u _).mono ?_;rintro e w6 ⟨rfl,hb6⟩;rw [c4])
   try go_wp2_with fail
   refine hK.out _ _ ?_ fun hHeld => ?_
   ·exact aa.trans (by assumption) (by assumption)
   clear hK K
   try simp only [ar]
   refine ad.go [16,17,18,19,20,21,22,23,24,25,26,27,28] ?_
   iterate 13 (refine aJ (h := ?_);try simp only [ar])
   refine ad.nil ?_
   refine aO 29 (h:=fun K hK => ?_)
   go_simp
   first
    | (go_at_call 215;refine (H.out.can t.no c2 (by assumption)).mono ?_;rintro e w5 ⟨rfl,hb5⟩)
    | (go_at_call 183;refine (nt t u _).mono ?_;rintro e w6 ⟨rfl,hb6⟩;rw [c4])
   try go_wp2_with fail
   refine hK.out _ _ ?_ fun hHeld => ?_
   ·exact aa.trans (by assumption) (by assumption)
   clear hK K
   try simp only [ar]
   refine ad.go [30,31] ?_
   iterate 2 (refine aJ (h := ?_);try simp only [ar])
   refine ad.nil ?_
   refine wpAnyH_done (by kernel_rfl) ?_ _
   have K9:aa w w6:=by assumption
   go_wp2
   exact ⟨⟨k+1,_,by omega,by go_num,rfl,HT,K9⟩,by simp only [intOf];omega⟩
  ·have HT:Hid (dr ts bZ (k+1)=(k:Int)):=by show _=_;rw [HS.out,c1,c2,c3,c4];rfl
   go_wp2_with fail
   refine wp_region_held_drew (S:=(fun w'=>aa w w')) (by kernel_rfl) ?_ (fun hHeld => ?_)
   ·exact aa.drew (by assumption)
   refine ad.go [0,1,2,3,4,5,6,7,8,9,10,11,12,13,14] ?_
   iterate 15 (refine aJ (h := ?_);try simp only [ar])
   refine ad.nil ?_
   refine aO 15 (h:=fun K hK => ?_)
   go_simp
   first
    | (go_at_call 215;refine (H.out.can t.no c2 (by assumption)).mono ?_;rintro e w5 ⟨rfl,hb5⟩)
    | (go_at_call 183;refine (nt t u _).mono ?_;rintro e w6 ⟨rfl,hb6⟩;rw [c4])
   try go_wp2_with fail
   refine hK.out _ _ ?_ fun hHeld => ?_
   ·exact aa.trans (by assumption) (by assumption)
   clear hK K
   try simp only [ar]
   refine ad.go [16,17,18,19,20,21,22,23,24,25,26,27,28] ?_
   iterate 13 (refine aJ (h := ?_);try simp only [ar])
   refine ad.nil ?_
   refine aO 29 (h:=fun K hK => ?_)
   go_simp
   first
    | (go_at_call 215;refine (H.out.can t.no c2 (by assumption)).mono ?_;rintro e w5 ⟨rfl,hb5⟩)
    | (go_at_call 183;refine (nt t u _).mono ?_;rintro e w6 ⟨rfl,hb6⟩;rw [c4])
   try go_wp2_with fail
   refine hK.out _ _ ?_ fun hHeld => ?_
   ·exact aa.trans (by assumption) (by assumption)
   clear hK K
   try simp only [ar]
   refine ad.go [30,31] ?_
   iterate 2 (refine aJ (h := ?_);try simp only [ar])
   refine ad.nil ?_
   refine wpAnyH_done (by kernel_rfl) ?_ _
   have K9:aa w w6:=by assumption
   go_wp2
   exact ⟨⟨k+1,_,by omega,by go_num,rfl,HT,K9⟩,by simp only [intOf];omega⟩
 ·have e:k=n:=by omega
  subst e
  go_wp2
  go_ret
  exact ⟨by rw [HP.out,HA.out];rfl,hK⟩
set_option maxHeartbeats 4000000 in
theorem FQ {w:World} {a:Option Addr} {n cap:Nat} {ts:List ag} (h:fk w a n cap ts) (b:Option Addr) (cap2:Nat) (xs:List Int) (hx:xs.length <= maxLen) (hs:Ns w b xs) :
  Calls Tryz.prog 152 #[.slice a n cap,.slice b xs.length cap2] w fun e w'=>e = .returned (.int .i64 (eO ts xs)) /\ aa w w':=by
 have H:Hid (fk w a n cap ts):=h
 have Hn:Hid (ts.length=n):=h.len
 have hn:n <= 9223372036854775807:=by rw [<- h.len];have:=h.small;unfold maxLen at this;omega
 clear h
 have HX0:Hid (∀ x w',aa w w'->Calls Tryz.prog 147 #[.slice b xs.length cap2,.int .i64 x] w' fun e w''=>e = .returned (.bool (hasB xs x)) /\ aa w' w''):=fun x w' k=>pM b cap2 xs x w' hx (hs.keeps k)
 generalize hq:xs.length=q at HX0
 have Hq:Hid (xs.length=q):=hq
 clear hx hs hq
 cases hb:di ts
 ·have Hr:Hid (eO ts xs=0):=by show _=_;simp [eO,hb]
  go_enter Tryz.func152,Tryz.ntmps152
  go_wp2
  go_loopw [5,6] (fun at' i wr=>i = .int .i64 0 /\ at' = .int .i64 (-1) /\ wr=w) (fun _ _ _=>0)
  case atStart=>exact ⟨rfl,rfl,rfl⟩
  case round =>
  obtain ⟨rfl,rfl,hw⟩:=hrel
  have hw2:=hw.symm
  subst hw2
  clear hw
  by_cases hlt:0 < n
  ·have hlt':(0:Int) < (n:Int):=by omega
   go_wp2_with (go_at_call 28;refine (H.out.gE hb (aa.refl _)).mono ?_;rintro e w1 ⟨rfl,k1⟩)
   go_ret
   exact ⟨by rw [Hr.out];rfl,k1⟩
  ·have hlt':decide ((0:Int) < (n:Int))=false:=by simp;omega
   have hlt2:decide (0 < n)=false:=by simp;omega
   go_wp2
   go_ret
   exact ⟨by rw [Hr.out];rfl,aa.refl _⟩
 obtain ⟨bZ,Hc⟩:∃ bZ,Hid (lV xs=bZ):=⟨_,rfl⟩
 have HP:Hid (eO ts xs=gT ts (dr ts bZ n)):=by show _=_;unfold eO;rw [hb,Hc.out,Hn.out];rfl
 go_enter Tryz.func152,Tryz.ntmps152
 go_wp2
 go_loopw [5,6] (fun at' i wr=>∃ (k:Nat) (A:Int),k <= n /\ i = .int .i64 k /\ at' = .int .i64 A /\ Hid (dr ts bZ k=A) /\ aa w wr) (fun _ i _=>n - (intOf i).toNat)
 case atStart=>exact ⟨0,-1,Nat.zero_le _,rfl,rfl,rfl,aa.refl _⟩
 case round =>
 obtain ⟨k,A,hk,rfl,rfl,HA,hK⟩:=hrel
 have hAr : -1 <= A /\ A < k:=by rw [<- HA.out];exact vq ts bZ k
 by_cases hlt:k < n
 ·have hlt':(k:Int) < (n:Int):=by omega
  obtain ⟨t,ht⟩:=iW (xs:=ts) (k:=k) (by rw [Hn.out];exact hlt)
  have HS:Hid (dr ts bZ (k+1)=if hasB xs t.no&&(decide (A < 0)||bh t (ts.getD A.toNat ag.zero)) then (k:Int) else A):=by
   show _=_
   simp only [dr,lr]
   rw [HA.out,lU ht,<- Hc.out]
   rfl
  obtain ⟨ba,off,rfl,all⟩:=H.out.all (by omega)
  have AL:Hid _:=all
  obtain ⟨r0,r1⟩:=all k t ht
  have Ht:Hid (ts[k]?=some t):=ht
  clear all ht
  obtain ⟨cc,pN⟩:∃ cc,Hid (hasB xs t.no=cc):=⟨_,rfl⟩
  rw [pN.out] at HS
  have HX:Hid (∀ w',aa w w'->Calls Tryz.prog 147 #[.slice b q cap2,.int .i64 t.no] w' fun e w''=>e = .returned (.bool cc) /\ aa w' w''):=fun w' k=>by rw [<- pN.out];exact HX0.out t.no w' k
  go_wp2_with (first
   | (go_at_call 28;refine (H.out.gE hb hK).mono ?_;rintro e w1 ⟨rfl,k1⟩;have K1:=hK.trans k1)
   | fail)
  clear hK k1
  cases cc
  ·have HT:Hid (dr ts bZ (k+1)=A):=by show _=_;rw [HS.out];rfl
   go_wp2_with fail
   refine wp_region_held_drew (S:=(fun w'=>aa w w')) (by kernel_rfl) ?_ (fun hHeld => ?_)
   ·exact aa.drew (by assumption)
   refine ad.go [0,1,2,3,4,5] ?_
   iterate 6 (refine aJ (h := ?_);try simp only [ar])
   refine ad.nil ?_
   refine aO 6 (h:=fun K hK => ?_)
   go_simp
   (go_at_call 147;refine (HX.out _ (by assumption)).mono ?_;rintro e w5 ⟨rfl,hb5⟩)
   try go_wp2_with fail
   refine hK.out _ _ ?_ fun hHeld => ?_
   ·exact aa.trans (by assumption) (by assumption)
   clear hK K
   try simp only [ar]
   refine cU 7 (h := ?_)
   try simp only [ar]
   refine ad.go [8,9,10,11,12,13,14,15,16,17,18,19,20] ?_
   iterate 13 (refine dB (h := ?_);try simp only [ar])
   refine ad.nil ?_
   refine cU 21 (h := ?_)
   try simp only [ar]
   refine wpAnyH_done (by kernel_rfl) ?_ _
   have K9:aa w w5:=by assumption
   go_wp2
   exact ⟨⟨k+1,_,by omega,by go_num,rfl,HT,K9⟩,by simp only [intOf];omega⟩
  cases c3:decide (A < 0)
  rotate_left
  ·have HT:Hid (dr ts bZ (k+1)=(k:Int)):=by show _=_;rw [HS.out,c3];rfl
   go_wp2_with fail
   refine wp_region_held_drew (S:=(fun w'=>aa w w')) (by kernel_rfl) ?_ (fun hHeld => ?_)
   ·exact aa.drew (by assumption)
   refine ad.go [0,1,2,3,4,5] ?_
   iterate 6 (refine aJ (h := ?_);try simp only [ar])
   refine ad.nil ?_
   refine aO 6 (h:=fun K hK => ?_)
   go_simp
   (go_at_call 147;refine (HX.out _ (by assumption)).mono ?_;rintro e w5 ⟨rfl,hb5⟩)
   try go_wp2_with fail
   refine hK.out _ _ ?_ fun hHeld => ?_
   ·exact aa.trans (by assumption) (by assumption)
   clear hK K
   try simp only [ar]
   refine ad.go [7,8,9,10] ?_
   iterate 4 (refine aJ (h := ?_);try simp only [ar])
   refine ad.nil ?_
   refine ad.go [11,12,13,14,15,16,17,18,19] ?_
   iterate 9 (refine dB (h := ?_);try simp only [ar])
   refine ad.nil ?_
   refine ad.go [20,21] ?_
   iterate 2 (refine aJ (h := ?_);try simp only [ar])
   refine ad.nil ?_
   refine wpAnyH_done (by kernel_rfl) ?_ _
   have K9:aa w w5:=by assumption
   go_wp2
   exact ⟨⟨k+1,_,by omega,by go_num,rfl,HT,K9⟩,by simp only [intOf];omega⟩
  have hA0:0 <= A:=by simpa using c3
  obtain ⟨j,rfl⟩:=Int.eq_ofNat_of_zero_le hA0
  have hj:j < n:=by omega
  have hj':(j:Int) < (n:Int):=by omega
  obtain ⟨u,hu⟩:=iW (xs:=ts) (k:=j) (by rw [Hn.out];exact hj)
  obtain ⟨r2,r3⟩:=AL.out j u hu
  have eu:ts.getD (j:Int).toNat ag.zero=u:=by rw [Int.toNat_natCast];exact lU hu
  rw [eu] at HS
  clear hu eu
  cases c4:bh t u
  ·have HT:Hid (dr ts bZ (k+1)=(j:Int)):=by show _=_;rw [HS.out,c3,c4];rfl
   go_wp2_with fail
   refine wp_region_held_drew (S:=(fun w'=>aa w w')) (by kernel_rfl) ?_ (fun hHeld => ?_)
   ·exact aa.drew (by assumption)
   refine ad.go [0,1,2,3,4,5] ?_
   iterate 6 (refine aJ (h := ?_);try simp only [ar])
   refine ad.nil ?_
   refine aO 6 (h:=fun K hK => ?_)
   go_simp
   first
    | (go_at_call 147;refine (HX.out _ (by assumption)).mono ?_;rintro e w5 ⟨rfl,hb5⟩)
    | (go_at_call 183;refine (nt t u _).mono ?_;rintro e w6 ⟨rfl,hb6⟩;rw [c4])
   try go_wp2_with fail
   refine hK.out _ _ ?_ fun hHeld => ?_
   ·exact aa.trans (by assumption) (by assumption)
   clear hK K
   try simp only [ar]
   refine ad.go [7,8,9,10,11,12,13,14,15,16,17,18] ?_
   iterate 12 (refine aJ (h := ?_);try simp only [ar])
   refine ad.nil ?_
   refine aO 19 (h:=fun K hK => ?_)
   go_simp
   first
    | (go_at_call 147;refine (HX.out _ (by assumption)).mono ?_;rintro e w5 ⟨rfl,hb5⟩)
    | (go_at_call 183;refine (nt t u _).mono ?_;rintro e w6 ⟨rfl,hb6⟩;rw [c4])
   try go_wp2_with fail
   refine hK.out _ _ ?_ fun hHeld => ?_
   ·exact aa.trans (by assumption) (by assumption)
   clear hK K
   try simp only [ar]
   refine ad.go [20,21] ?_
   iterate 2 (refine aJ (h := ?_);try simp only [ar])
   refine ad.nil ?_
   refine wpAnyH_done (by kernel_rfl) ?_ _
   have K9:aa w w6:=by assumption
   go_wp2
   exact ⟨⟨k+1,_,by omega,by go_num,rfl,HT,K9⟩,by simp only [intOf];omega⟩
  ·have HT:Hid (dr ts bZ (k+1)=(k:Int)):=by show _=_;rw [HS.out,c3,c4];rfl
   go_wp2_with fail
   refine wp_region_held_drew (S:=(fun w'=>aa w w')) (by kernel_rfl) ?_ (fun hHeld => ?_)
   ·exact aa.drew (by assumption)
   refine ad.go [0,1,2,3,4,5] ?_
   iterate 6 (refine aJ (h := ?_);try simp only [ar])
   refine ad.nil ?_
   refine aO 6 (h:=fun K hK => ?_)
   go_simp
   first
    | (go_at_call 147;refine (HX.out _ (by assumption)).mono ?_;rintro e w5 ⟨rfl,hb5⟩)
    | (go_at_call 183;refine (nt t u _).mono ?_;rintro e w6 ⟨rfl,hb6⟩;rw [c4])
   try go_wp2_with fail
   refine hK.out _ _ ?_ fun hHeld => ?_
   ·exact aa.trans (by assumption) (by assumption)
   clear hK K
   try simp only [ar]
   refine ad.go [7,8,9,10,11,12,13,14,15,16,17,18] ?_
   iterate 12 (refine aJ (h := ?_);try simp only [ar])
   refine ad.nil ?_
   refine aO 19 (h:=fun K hK => ?_)
   go_simp
   first
    | (go_at_call 147;refine (HX.out _ (by assumption)).mono ?_;rintro e w5 ⟨rfl,hb5⟩)
    | (go_at_call 183;refine (nt t u _).mono ?_;rintro e w6 ⟨rfl,hb6⟩;rw [c4])
   try go_wp2_with fail
   refine hK.out _ _ ?_ fun hHeld => ?_
   ·exact aa.trans (by assumption) (by assumption)
   clear hK K
   try simp only [ar]
   refine ad.go [20,21] ?_
   iterate 2 (refine aJ (h := ?_);try simp only [ar])
   refine ad.nil ?_
   refine wpAnyH_done (by kernel_rfl) ?_ _
   have K9:aa w w6:=by assumption
   go_wp2
   exact ⟨⟨k+1,_,by omega,by go_num,rfl,HT,K9⟩,by simp only [intOf];omega⟩
 ·have e:k=n:=by omega
  subst e
  have hlt':decide ((k:Int) < (k:Int))=false:=by simp
  cases c3:decide (A < 0)
  rotate_left
  ·have Hr:Hid (eO ts xs=0):=by show _=_;rw [HP.out,HA.out];unfold gT;rw [if_pos (of_decide_eq_true c3)]
   go_wp2
   go_ret
   exact ⟨by rw [Hr.out];rfl,hK⟩
  ·have hA0:0 <= A:=by simpa using c3
   obtain ⟨j,rfl⟩:=Int.eq_ofNat_of_zero_le hA0
   have hj:j < k:=by omega
   have hj':(j:Int) < (k:Int):=by omega
   obtain ⟨u,hu⟩:=iW (xs:=ts) (k:=j) (by rw [Hn.out];exact hj)
   have Hr:Hid (eO ts xs=u.no):=by show _=_;rw [HP.out,HA.out];unfold gT;rw [if_neg (of_decide_eq_false c3),Int.toNat_natCast,lU hu]
   obtain ⟨ba,off,rfl,all⟩:=H.out.all (by omega)
   obtain ⟨r0,r1⟩:=all j u hu
   clear all hu
   go_wp2
   go_ret
   exact ⟨by rw [Hr.out];rfl,hK⟩
end
end Go.Proofs.YteagpjlgjfaclaaGreatDoor
