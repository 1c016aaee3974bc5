/-
  The program's invariants of a system, its first mistake, an
  A drawn call that is turned in one place now and then.
  The program's SysCall of the kind 6, of a right system.
-/
import Derived.Test.YteagpjlgjfaclaaGreatDoorImplEnd
import Derived.Test.YteagpjlgjfaclaaGreatDoorImplTasksOk
import Derived.Test.YteagpjlgjfaclaaGreatDoorSysNewS
import Derived.Test.YteagpjlgjfaclaaGreatDoorCur
import Derived.Test.YteagpjlgjfaclaaGreatDoorImplLockA
import Derived.Deep.RegionHeld3
import Derived.Laws.EntriesVeiled
import Derived.Test.YteagpjlgjfaclaaGreatDoorCallDraw1
import Derived.Test.YteagpjlgjfaclaaGreatDoorImplCalled6
namespace Go.Proofs.YteagpjlgjfaclaaGreatDoor
set_option maxRecDepth 100000
open Go.RowKit
section
attribute [local go_sem] aa.refl aa.alloc aa.drew aa.drewN
theorem yp (s:Sy) (v:Sv) (c:Int) (w:World) :
  Calls Tryz.prog 106 #[.agg (ae s v),.int .i64 c] w fun e w'=>e = .returned (.bool (hH s c)) /\ aa w w':=by
 cases c1:decide (0 <= c)
 ·have Hr:Hid (hH s c=false):=by show _=_;unfold hH;rw [c1];rfl
  go_enter Tryz.func106,Tryz.ntmps106
  go_wp2
  go_ret
  exact ⟨by rw [Hr.out];rfl,(aa.refl _).alloc _⟩
 ·have Hr:Hid (hH s c=decide (c < s.az)):=by show _=_;unfold hH;rw [c1];rfl
  go_enter Tryz.func106,Tryz.ntmps106
  go_wp2
  go_ret
  exact ⟨by rw [Hr.out];rfl,(aa.refl _).alloc _⟩
theorem FW (s:Sy) (v:Sv) (w:World) :
  Calls Tryz.prog 62 #[.agg (ae s v)] w fun e w'=>e = .returned (.bool (inv0 s)) /\ aa w w':=by
 have HE:Hid (inv0 s=(aH s.now 0 100000&&aH s.az 1 4)):=rfl
 have I1:=eW s.now 0 100000
 have I2:=eW s.az 1 4
 obtain ⟨p,hp⟩:∃ p,aH s.now 0 100000=p:=⟨_,rfl⟩
 obtain ⟨q,hq⟩:∃ q,aH s.az 1 4=q:=⟨_,rfl⟩
 rw [hp] at I1 HE
 rw [hq] at I2 HE
 clear hp hq
 cases p
 ·have Hr:Hid (inv0 s=false):=HE
  go_enter Tryz.func62,Tryz.ntmps62
  go_wp2_with (go_at_call 105;have i1:=I1;clear I1;refine (i1 _).mono ?_;rintro e w' ⟨rfl,hw'⟩;have hw2:=hw'.symm;subst hw2)
  go_ret
  exact ⟨by rw [Hr.out];rfl,(aa.refl _).alloc _⟩
 ·have Hr:Hid (inv0 s=q):=HE
  go_enter Tryz.func62,Tryz.ntmps62
  go_wp2_with (first
   | (go_at_call 105;have i1:=I1;clear I1;refine (i1 _).mono ?_;rintro e w' ⟨rfl,hw'⟩;have hw2:=hw'.symm;subst hw2)
   | (go_at_call 105;have i2:=I2;clear I2;refine (i2 _).mono ?_;rintro e w' ⟨rfl,hw'⟩;have hw2:=hw'.symm;subst hw2))
  go_ret
  exact ⟨by rw [Hr.out];rfl,(aa.refl _).alloc _⟩
theorem FX {w:World} {v:Sv} {s:Sy} (h:aA w v s) :
  Calls Tryz.prog 68 #[.agg (ae s v)] w fun e w'=>e = .returned (.bool (fR s)) /\ aa w w':=by
 have hl:s.trace.length=v.r.n:=h.lay.rl
 have HE:Hid (fR s=(aH s.seq 0 1000000&&(aH s.missed 0 100000&&decide (v.r.n <= 400)))):=by show _=_;unfold fR;rw [hl]
 clear hl h
 have I1:=eW s.seq 0 1000000
 have I2:=eW s.missed 0 100000
 obtain ⟨p,hp⟩:∃ p,aH s.seq 0 1000000=p:=⟨_,rfl⟩
 obtain ⟨q,hq⟩:∃ q,aH s.missed 0 100000=q:=⟨_,rfl⟩
 rw [hp] at I1 HE
 rw [hq] at I2 HE
 clear hp hq
 cases p
 ·have Hr:Hid (fR s=false):=HE
  go_enter Tryz.func68,Tryz.ntmps68
  go_wp2_with (go_at_call 105;have i1:=I1;clear I1;refine (i1 _).mono ?_;rintro e w' ⟨rfl,hw'⟩;have hw2:=hw'.symm;subst hw2)
  go_ret
  exact ⟨by rw [Hr.out];rfl,(aa.refl _).alloc _⟩
 cases q
 ·have Hr:Hid (fR s=false):=HE
  go_enter Tryz.func68,Tryz.ntmps68
  go_wp2_with (first
   | (go_at_call 105;have i1:=I1;clear I1;refine (i1 _).mono ?_;rintro e w' ⟨rfl,hw'⟩;have hw2:=hw'.symm;subst hw2)
   | (go_at_call 105;have i2:=I2;clear I2;refine (i2 _).mono ?_;rintro e w' ⟨rfl,hw'⟩;have hw2:=hw'.symm;subst hw2))
  go_ret
  exact ⟨by rw [Hr.out];rfl,(aa.refl _).alloc _⟩
 ·have Hr:Hid (fR s=decide (v.r.n <= 400)):=HE
  have hd:decide ((v.r.n:Int) <= 400)=decide (v.r.n <= 400):=by rw [Bool.eq_iff_iff];simp only [decide_eq_true_eq];omega
  obtain ⟨z,hz⟩:∃ z,decide (v.r.n <= 400)=z:=⟨_,rfl⟩
  rw [hz] at hd Hr
  clear hz
  go_enter Tryz.func68,Tryz.ntmps68
  go_wp2_with (first
   | (go_at_call 105;have i1:=I1;clear I1;refine (i1 _).mono ?_;rintro e w' ⟨rfl,hw'⟩;have hw2:=hw'.symm;subst hw2)
   | (go_at_call 105;have i2:=I2;clear I2;refine (i2 _).mono ?_;rintro e w' ⟨rfl,hw'⟩;have hw2:=hw'.symm;subst hw2))
  go_ret
  exact ⟨by rw [Hr.out,<- hd];rfl,(aa.refl _).alloc _⟩
theorem rK {α:Type} (p:α->Bool) {xs:List α} {k:Nat} {x:α} (hx:xs[k]?=some x) (h:(xs.take k).all p=true) (hp:p x=true):(xs.take (k+1)).all p=true:=by
 rw [jd hx,List.all_append,h]
 simp [hp]
theorem mc {α:Type} (p:α->Bool) {xs:List α} {k:Nat} {x:α} (hx:xs[k]?=some x) (hp:p x=false):xs.all p=false:=by
 rw [<- Bool.not_eq_true,List.all_eq_true]
 intro h
 have:=h x (List.mem_iff_getElem?.2 ⟨k,hx⟩)
 rw [hp] at this
 cases this
set_option maxHeartbeats 2000000 in
theorem FY {w:World} {v:Sv} {s:Sy} (h:aA w v s) :
  Calls Tryz.prog 63 #[.agg (ae s v)] w fun e w'=>e = .returned (.bool (inv1 s)) /\ aa w w':=by
 obtain ⟨⟨ta,tn,ag⟩,vl,vg,vf,vr⟩:=v
 have hm1:tn <= 2000000:=by have h1:=h.size;have h2:s.tasks.length=tn:=h.lay.tl;unfold bE at h1;omega
 have Hn:Hid (s.tasks.length=tn):=h.lay.tl
 have kW:=dw w (.cells (ae s ⟨⟨ta,tn,ag⟩,vl,vg,vf,vr⟩) 30)
 have hb:=dA w (ae s ⟨⟨ta,tn,ag⟩,vl,vg,vf,vr⟩) 30
 have HS:Hid (aA (w.alloc (.cells (ae s ⟨⟨ta,tn,ag⟩,vl,vg,vf,vr⟩) 30)) ⟨⟨ta,tn,ag⟩,vl,vg,vf,vr⟩ s):=h.keeps kW
 have hT:Hid (fM (w.alloc (.cells (ae s ⟨⟨ta,tn,ag⟩,vl,vg,vf,vr⟩) 30)) ta tn ag s.tasks):=HS.out.gF
 have HC:Hid (∀ (c:Int) (w':World),Calls Tryz.prog 106 #[.agg (ae s ⟨⟨ta,tn,ag⟩,vl,vg,vf,vr⟩),.int .i64 c] w' fun e w''=>e = .returned (.bool (hH s c)) /\ aa w' w''):=fun c w'=>yp s _ c w'
 have HO:Hid (∀ w',aa (w.alloc (.cells (ae s ⟨⟨ta,tn,ag⟩,vl,vg,vf,vr⟩) 30)) w'->Calls Tryz.prog 33 #[.slice ta tn ag] w' fun e w''=>e = .returned (.bool (dz s.tasks)) /\ aa w' w''):=fun w' k=>by
  have:=FZ ta ag s.tasks w' hT.out.small (hT.out.keeps k).lies
  rw [hT.out.len] at this
  exact this
 have HE:Hid (inv1 s=(s.tasks.all (fun t=>hH s t.cpu)&&dz s.tasks)):=rfl
 clear h HS
 go_enter Tryz.func63,Tryz.ntmps63
 go_wp2
 generalize w.alloc (.cells (ae s ⟨⟨ta,tn,ag⟩,vl,vg,vf,vr⟩) 30)=W at *
 go_loopw [8] (fun i wr=>∃ k:Nat,k <= tn /\ i = .int .i64 k /\ Hid ((s.tasks.take k).all (fun t=>hH s t.cpu)=true) /\ aa W wr) (fun i _=>tn - (intOf i).toNat)
 case atStart=>exact ⟨0,Nat.zero_le _,rfl,by show _=_;simp,aa.refl _⟩
 case round =>
  obtain ⟨k,hk,rfl,HA,hK⟩:=hrel
  by_cases hlt:k < tn
  ·obtain ⟨t,ht⟩:=cd (xs:=s.tasks) (k:=k) (by rw [Hn.out];exact hlt)
   obtain ⟨b,off,rfl,r0,r1⟩:=hT.out.lies.at ht (by omega)
   have hlt':(k:Int) < (tn:Int):=by omega
   have Ht:Hid (s.tasks[k]?=some t):=ht
   have Hc:Hid (∀ w':World,Calls Tryz.prog 106 #[.agg (ae s ⟨⟨some ⟨b,off,none⟩,tn,ag⟩,vl,vg,vf,vr⟩),.int .i64 t.cpu] w' fun e w''=>e = .returned (.bool (hH s t.cpu)) /\ aa w' w''):=fun w'=>HC.out t.cpu w'
   clear ht HC hT
   cases q:hH s t.cpu
   ·have Hr:Hid (inv1 s=false):=by show _=_;rw [HE.out,mc _ Ht.out q];rfl
    rw [q] at Hc
    clear HO
    go_wp2_with (go_at_call 106;refine (Hc.out _).mono ?_;rintro e w1 ⟨rfl,k1⟩;have K1:=(hK.alloc (.cells (tc t) 43)).trans k1)
    go_ret
    exact ⟨by rw [Hr.out];rfl,kW.trans K1⟩
   ·rw [q] at Hc
    clear HO
    go_wp2_with (go_at_call 106;refine (Hc.out _).mono ?_;rintro e w1 ⟨rfl,k1⟩;have K1:=(hK.alloc (.cells (tc t) 43)).trans k1)
    exact ⟨⟨k+1,by omega,by go_num,rK _ Ht.out HA.out q,K1⟩,by simp only [intOf];omega⟩
  ·have hlt':decide ((k:Int) < (tn:Int))=false:=by simp;omega
   have Hr:Hid (inv1 s=dz s.tasks):=by
    have h1:=HA.out
    rw [List.take_of_length_le (by have:=Hn.out;omega)] at h1
    show _=_
    rw [HE.out,h1];rfl
   obtain ⟨z,Hz⟩:∃ z,Hid (dz s.tasks=z):=⟨_,rfl⟩
   rw [Hz.out] at HO Hr
   clear hT HC HA
   go_wp2_with (go_at_call 33;refine (HO.out _ hK).mono ?_;rintro e w1 ⟨rfl,k1⟩)
   go_ret
   exact ⟨by rw [Hr.out];rfl,kW.trans (hK.trans k1)⟩
set_option maxHeartbeats 2000000 in
theorem F0 {w:World} {v:Sv} {s:Sy} (h:aA w v s) {i:Nat} {l:Lk} (hl:s.ak[i]?=some l) :
  Calls Tryz.prog 107 #[.agg (ae s v),.int .i64 (i:Int)] w fun e w'=>e = .returned (.bool (iY s i l)) /\ aa w w':=by
 obtain ⟨vt,⟨la,ln,ah⟩,vg,vf,vr⟩:=v
 have hm2:ln <= 2000000:=by have h1:=h.size;have h2:s.ak.length=ln:=h.lay.ll;have h3:=lP s.ak;unfold bE at h1;omega
 have hw0:l.waits.length <= 2000000:=by
  have h1:=lh hl
  have h2:=h.size
  unfold bE bR at h2
  omega
 have hL0:On w la ln ah s.ak:=h.gx
 obtain ⟨hkn,b,off,a',cap',rfl,-,-,-,-⟩:=hL0.at hl
 clear hL0
 have kW:=dw w (.cells (ae s ⟨vt,⟨some ⟨b,off,none⟩,ln,ah⟩,vg,vf,vr⟩) 30)
 have hb:=dA w (ae s ⟨vt,⟨some ⟨b,off,none⟩,ln,ah⟩,vg,vf,vr⟩) 30
 have HS:Hid (aA (w.alloc (.cells (ae s ⟨vt,⟨some ⟨b,off,none⟩,ln,ah⟩,vg,vf,vr⟩) 30)) ⟨vt,⟨some ⟨b,off,none⟩,ln,ah⟩,vg,vf,vr⟩ s):=h.keeps kW
 have hL:On (w.alloc (.cells (ae s ⟨vt,⟨some ⟨b,off,none⟩,ln,ah⟩,vg,vf,vr⟩) 30)) (some ⟨b,off,none⟩) ln ah s.ak:=HS.out.gx
 clear a' cap'
 obtain ⟨-,b',off',a',cap',ha,r0,r1,hle,hns⟩:=hL.at hl
 simp only [Option.some.injEq,Addr.mk.injEq] at ha
 obtain ⟨rfl,rfl,-⟩:=ha
 have hki:(i:Int) < (ln:Int):=by omega
 have HC:Hid (∀ (x:Int) (w':World),aa (w.alloc (.cells (ae s ⟨vt,⟨some ⟨b,off,none⟩,ln,ah⟩,vg,vf,vr⟩) 30)) w'->Calls Tryz.prog 156 #[.agg (ae s ⟨vt,⟨some ⟨b,off,none⟩,ln,ah⟩,vg,vf,vr⟩),.int .i64 (i:Int),.int .i64 x] w' fun e w''=>e = .returned (.bool (ew s i x)) /\ aa w' w''):=fun x w' k=>Fh w' _ s i x (HS.out.keeps k)
 have HE:Hid (iY s i l=(l.waits.all (fun x=>ew s i x)&&(l.owner==0||ew s i l.owner))):=rfl
 obtain ⟨m,Hm⟩:∃ m:Nat,Hid (l.waits.length=m):=⟨_,rfl⟩
 rw [Hm.out] at r1 hw0
 have yq:Hid (Ns (w.alloc (.cells (ae s ⟨vt,⟨some ⟨b,off,none⟩,ln,ah⟩,vg,vf,vr⟩) 30)) a' l.waits):=hns
 clear h HS hL hl hns hle
 go_enter Tryz.func107,Tryz.ntmps107
 go_wp2
 generalize w.alloc (.cells (ae s ⟨vt,⟨some ⟨b,off,none⟩,ln,ah⟩,vg,vf,vr⟩) 30)=W at *
 go_loopw [15] (fun j wr=>∃ k:Nat,k <= m /\ j = .int .i64 k /\ Hid ((l.waits.take k).all (fun x=>ew s i x)=true) /\ aa W wr) (fun j _=>m - (intOf j).toNat)
 case atStart=>exact ⟨0,Nat.zero_le _,rfl,by show _=_;simp,aa.refl _⟩
 case round =>
  obtain ⟨k,hk,rfl,HA,hK⟩:=hrel
  by_cases hlt:k < m
  ·obtain ⟨x,hx⟩:=cd (xs:=l.waits) (k:=k) (by rw [Hm.out];exact hlt)
   obtain ⟨b2,jq,rfl,x0⟩:=yq.out.at hx
   have hlt':(k:Int) < (m:Int):=by omega
   have Hx:Hid (l.waits[k]?=some x):=hx
   have Hc:Hid (∀ w',aa W w'->Calls Tryz.prog 156 #[.agg (ae s ⟨vt,⟨some ⟨b,off,none⟩,ln,ah⟩,vg,vf,vr⟩),.int .i64 (i:Int),.int .i64 x] w' fun e w''=>e = .returned (.bool (ew s i x)) /\ aa w' w''):=fun w' k=>HC.out x w' k
   clear hx HC yq
   cases q:ew s i x
   ·have Hr:Hid (iY s i l=false):=by show _=_;rw [HE.out,mc _ Hx.out q];rfl
    rw [q] at Hc
    go_wp2_with (go_at_call 156;refine (Hc.out _ hK).mono ?_;rintro e w1 ⟨rfl,k1⟩)
    go_ret
    exact ⟨by rw [Hr.out];rfl,kW.trans (hK.trans k1)⟩
   ·rw [q] at Hc
    go_wp2_with (go_at_call 156;refine (Hc.out _ hK).mono ?_;rintro e w1 ⟨rfl,k1⟩)
    exact ⟨⟨k+1,by omega,by go_num,rK _ Hx.out HA.out q,hK.trans k1⟩,by simp only [intOf];omega⟩
  ·have hlt':decide ((k:Int) < (m:Int))=false:=by simp;omega
   have Hr:Hid (iY s i l=(l.owner==0||ew s i l.owner)):=by
    have h1:=HA.out
    rw [List.take_of_length_le (by have:=Hm.out;omega)] at h1
    show _=_
    rw [HE.out,h1];rfl
   have Hc:Hid (∀ w',aa W w'->Calls Tryz.prog 156 #[.agg (ae s ⟨vt,⟨some ⟨b,off,none⟩,ln,ah⟩,vg,vf,vr⟩),.int .i64 (i:Int),.int .i64 l.owner] w' fun e w''=>e = .returned (.bool (ew s i l.owner)) /\ aa w' w''):=fun w' k=>HC.out l.owner w' k
   clear HC HA HE
   cases q:(l.owner==0)
   ·rw [q] at Hr
    obtain ⟨z,Hz⟩:∃ z,Hid (ew s i l.owner=z):=⟨_,rfl⟩
    rw [Hz.out] at Hc Hr
    go_wp2_with (go_at_call 156;refine (Hc.out _ hK).mono ?_;rintro e w1 ⟨rfl,k1⟩)
    go_ret
    exact ⟨by rw [Hr.out];rfl,kW.trans (hK.trans k1)⟩
   ·rw [q] at Hr
    go_wp2
    go_ret
    exact ⟨by rw [Hr.out];rfl,kW.trans hK⟩
set_option maxHeartbeats 2000000 in
theorem F3 {w:World} {v:Sv} {s:Sy} (h:aA w v s) :
  Calls Tryz.prog 64 #[.agg (ae s v)] w fun e w'=>e = .returned (.bool (inv2 s)) /\ aa w w':=by
 have hm2:v.l.n <= 2000000:=by have h1:=h.size;have h2:=h.lay.ll;have h3:=lP s.ak;unfold bE at h1;omega
 have Hn:Hid (s.ak.length=v.l.n):=h.lay.ll
 have kW:=dw w (.cells (ae s v) 30)
 have hb:=dA w (ae s v) 30
 have HS:Hid (aA (w.alloc (.cells (ae s v) 30)) v s):=h.keeps kW
 have HO:Hid (∀ w',aa (w.alloc (.cells (ae s v) 30)) w'->Calls Tryz.prog 75 #[.slice v.l.a v.l.n v.l.cap] w' fun e w''=>e = .returned (.bool (du s.ak)) /\ aa w' w''):=fun w' k=>by
  have h1:=HS.out.gx.keeps k
  have:=FV v.l.a v.l.cap s.ak w' (by have:=h1.size;omega) h1.gT
  rw [h1.len] at this
  exact this
 have HC:Hid (∀ (i:Nat) (l:Lk),s.ak[i]?=some l->∀ w',aa (w.alloc (.cells (ae s v) 30)) w'->Calls Tryz.prog 107 #[.agg (ae s v),.int .i64 (i:Int)] w' fun e w''=>e = .returned (.bool (iY s i l)) /\ aa w' w''):=fun i l hl w' k=>F0 (HS.out.keeps k) hl
 have HE:Hid (inv2 s=((v.l.n==5)&&(du s.ak&&(List.range v.l.n).all (fun i=>iY s i (s.ak.getD i ⟨0,[]⟩))))):=by show _=_;unfold inv2;rw [h.lay.ll]
 clear h HS
 by_cases h5:v.l.n=5
 rotate_left
 ·have hd:decide ((v.l.n:Int)=5)=false:=by simp;omega
  have hd2:((v.l.n:Int)==5)=false:=by simp;omega
  have hd3:((v.l.n:Int) != 5)=true:=by simp;omega
  have Hr:Hid (inv2 s=false):=by show _=_;rw [HE.out,show (v.l.n==5)=false from by simpa using h5];rfl
  clear h5
  go_enter Tryz.func64,Tryz.ntmps64
  go_wp2
  go_ret
  exact ⟨by rw [Hr.out];rfl,kW⟩
 have hd2:((v.l.n:Int)==5)=true:=by simp;omega
 have hd3:((v.l.n:Int) != 5)=false:=by simp;omega
 have HE2:Hid (inv2 s=(du s.ak&&(List.range v.l.n).all (fun i=>iY s i (s.ak.getD i ⟨0,[]⟩)))):=by show _=_;rw [HE.out,show (v.l.n==5)=true from by simpa using h5];rfl
 have H5:Hid (v.l.n=5):=h5
 clear HE h5
 cases q:du s.ak
 ·rw [q] at HO HE2
  have Hr:Hid (inv2 s=false):=HE2
  go_enter Tryz.func64,Tryz.ntmps64
  go_wp2_with fail
  generalize w.alloc (.cells (ae s v) 30)=W at *
  go_wp2_with (go_at_call 75;refine (HO.out _ (aa.refl _)).mono ?_;rintro e w1 ⟨rfl,k1⟩)
  go_ret
  exact ⟨by rw [Hr.out];rfl,kW.trans k1⟩
 rw [q] at HO HE2
 go_enter Tryz.func64,Tryz.ntmps64
 go_wp2_with fail
 generalize w.alloc (.cells (ae s v) 30)=W at *
 go_wp2_with (go_at_call 75;refine (HO.out _ (aa.refl _)).mono ?_;rintro e w1 ⟨rfl,k1⟩)
 clear HO
 go_loopw [17] (fun j wr=>∃ k:Nat,k <= v.l.n /\ j = .int .i64 k /\ Hid ((List.range k).all (fun i=>iY s i (s.ak.getD i ⟨0,[]⟩))=true) /\ aa W wr) (fun j _=>v.l.n - (intOf j).toNat)
 case atStart=>exact ⟨0,Nat.zero_le _,rfl,by show _=_;simp,k1⟩
 case round =>
  obtain ⟨k,hk,rfl,HA,hK⟩:=hrel
  by_cases hlt:k < v.l.n
  ·obtain ⟨l,hl⟩:=cd (xs:=s.ak) (k:=k) (by rw [Hn.out];exact hlt)
   have hlt':(k:Int) < (v.l.n:Int):=by omega
   have Hc:Hid (∀ w',aa W w'->Calls Tryz.prog 107 #[.agg (ae s v),.int .i64 (k:Int)] w' fun e w''=>e = .returned (.bool (iY s k l)) /\ aa w' w''):=fun w' h=>HC.out k l hl w' h
   have Hl:Hid (s.ak.getD k ⟨0,[]⟩=l):=lE hl
   clear hl HC
   cases q2:iY s k l
   ·have Hr:Hid (inv2 s=false):=by
     show _=_
     rw [HE2.out,mc _ (k:=k) (x:=k) (by simp [hlt]) (by rw [Hl.out];exact q2)]
     rfl
    rw [q2] at Hc
    go_wp2_with (go_at_call 107;refine (Hc.out _ hK).mono ?_;rintro e w2 ⟨rfl,k2⟩)
    go_ret
    exact ⟨by rw [Hr.out];rfl,kW.trans (hK.trans k2)⟩
   ·have HA2:Hid ((List.range (k+1)).all (fun i=>iY s i (s.ak.getD i ⟨0,[]⟩))=true):=by
     show _=_
     rw [List.range_succ,List.all_append,HA.out]
     simp only [List.all_cons,List.all_nil,Bool.and_true,Bool.true_and]
     rw [Hl.out];exact q2
    rw [q2] at Hc
    go_wp2_with (go_at_call 107;refine (Hc.out _ hK).mono ?_;rintro e w2 ⟨rfl,k2⟩)
    exact ⟨⟨k+1,by omega,by go_num,HA2,hK.trans k2⟩,by simp only [intOf];omega⟩
  ·have hlt':decide ((k:Int) < (v.l.n:Int))=false:=by simp;omega
   have Hr:Hid (inv2 s=true):=by
    show _=_
    rw [HE2.out,show v.l.n=k from by omega,HA.out];rfl
   go_wp2
   go_ret
   exact ⟨by rw [Hr.out];rfl,kW.trans hK⟩
set_option maxHeartbeats 2000000 in
theorem F4 {w:World} {v:Sv} {s:Sy} (h:aA w v s) :
  Calls Tryz.prog 65 #[.agg (ae s v)] w fun e w'=>e = .returned (.bool (eZ s)) /\ aa w w':=by
 obtain ⟨vt,vl,⟨ga,gn,ai⟩,vf,vr⟩:=v
 have hm1:gn <= 2000000:=by have h1:=h.size;have h2:s.af.length=gn:=h.lay.gl;unfold bE at h1;omega
 have Hn:Hid (s.af.length=gn):=h.lay.gl
 have kW:=dw w (.cells (ae s ⟨vt,vl,⟨ga,gn,ai⟩,vf,vr⟩) 30)
 have hb:=dA w (ae s ⟨vt,vl,⟨ga,gn,ai⟩,vf,vr⟩) 30
 have HS:Hid (aA (w.alloc (.cells (ae s ⟨vt,vl,⟨ga,gn,ai⟩,vf,vr⟩) 30)) ⟨vt,vl,⟨ga,gn,ai⟩,vf,vr⟩ s):=h.keeps kW
 have hG:Hid (Gs (w.alloc (.cells (ae s ⟨vt,vl,⟨ga,gn,ai⟩,vf,vr⟩) 30)) ga s.af):=HS.out.lay.g
 have HE:Hid (eZ s=(s.af.all (l9 s)&&decide (gn <= 12))):=by show _=_;unfold eZ;rw [Hn.out]
 clear h HS
 go_enter Tryz.func65,Tryz.ntmps65
 go_wp2
 generalize w.alloc (.cells (ae s ⟨vt,vl,⟨ga,gn,ai⟩,vf,vr⟩) 30)=W at *
 go_loopw [8] (fun i wr=>∃ k:Nat,k <= gn /\ i = .int .i64 k /\ Hid ((s.af.take k).all (l9 s)=true) /\ aa W wr) (fun i _=>gn - (intOf i).toNat)
 case atStart=>exact ⟨0,Nat.zero_le _,rfl,by show _=_;simp,aa.refl _⟩
 case round =>
  obtain ⟨k,hk,rfl,HA,hK⟩:=hrel
  by_cases hlt:k < gn
  ·obtain ⟨g,hg⟩:=cd (xs:=s.af) (k:=k) (by rw [Hn.out];exact hlt)
   obtain ⟨b,off,rfl,r0,r1⟩:=hG.out.at hg (by omega)
   have hlt':(k:Int) < (gn:Int):=by omega
   have Hg:Hid (s.af[k]?=some g):=hg
   have HB:Hid (l9 s g=(hH s g.cpu&&(okB g.q g.p&&aH g.eX 0 100040))):=rfl
   have C1:Hid (∀ w':World,Calls Tryz.prog 106 #[.agg (ae s ⟨vt,vl,⟨some ⟨b,off,none⟩,gn,ai⟩,vf,vr⟩),.int .i64 g.cpu] w' fun e w''=>e = .returned (.bool (hH s g.cpu)) /\ aa w' w''):=fun w'=>yp s _ g.cpu w'
   have C2:Hid (∀ w':World,Calls Tryz.prog 94 #[sh g.q g.p] w' fun e w''=>e = .returned (.bool (okB g.q g.p)) /\ aa w' w''):=fun w'=>(oA g.q g.p w').mono fun e w'' ⟨h1,h2⟩=>⟨h1,by rw [h2];exact (aa.refl w').alloc _⟩
   have C3:Hid (∀ w':World,Calls Tryz.prog 105 #[.int .i64 g.eX,.int .i64 0,.int .i64 100040] w' fun e w''=>e = .returned (.bool (aH g.eX 0 100040)) /\ aa w' w''):=fun w'=>(eW g.eX 0 100040 w').mono fun e w'' ⟨h1,h2⟩=>⟨h1,by rw [h2];exact aa.refl w'⟩
   clear hg hG
   cases q1:hH s g.cpu
   ·have Hr:Hid (eZ s=false):=by show _=_;rw [HE.out,mc _ Hg.out (by rw [HB.out,q1];rfl)];rfl
    rw [q1] at C1
    go_wp2_with (go_at_call 106;refine (C1.out _).mono ?_;rintro e w1 ⟨rfl,k1⟩;have K1:=(hK.alloc (.cells (cP g) 87)).trans k1;have bx1:=((aq.new wr (cP g) 87).keeps k1).cells;clear k1)
    go_ret
    exact ⟨by rw [Hr.out];rfl,kW.trans K1⟩
   rw [q1] at C1
   have BX:∀ w1:World,aa (wr.alloc (.cells (cP g) 87)) w1->∀ w',aa w1 w'->∀ j,w'.cell? ⟨wr.heap.size,j,none⟩=(cP g)[j]?:=fun w1 h1 w' h2=>((aq.new wr (cP g) 87).keeps (h1.trans h2)).cells
   cases q2:okB g.q g.p
   ·have Hr:Hid (eZ s=false):=by show _=_;rw [HE.out,mc _ Hg.out (by rw [HB.out,q1,q2];rfl)];rfl
    rw [q2] at C2
    go_wp2_with (first
     | (go_at_call 106;refine (C1.out _).mono ?_;rintro e w1 ⟨rfl,k1⟩;have K1:=(hK.alloc (.cells (cP g) 87)).trans k1;have bx1:=BX w1 k1;clear k1)
     | (go_at_call 94;refine (C2.out _).mono ?_;rintro e w2 ⟨rfl,k2⟩;have K2:=K1.trans k2))
    go_ret
    exact ⟨by rw [Hr.out];rfl,kW.trans K2⟩
   rw [q2] at C2
   cases q3:aH g.eX 0 100040
   ·have Hr:Hid (eZ s=false):=by show _=_;rw [HE.out,mc _ Hg.out (by rw [HB.out,q1,q2,q3];rfl)];rfl
    rw [q3] at C3
    go_wp2_with (first
     | (go_at_call 106;refine (C1.out _).mono ?_;rintro e w1 ⟨rfl,k1⟩;have K1:=(hK.alloc (.cells (cP g) 87)).trans k1;have bx1:=BX w1 k1;clear k1)
     | (go_at_call 94;refine (C2.out _).mono ?_;rintro e w2 ⟨rfl,k2⟩;have K2:=K1.trans k2)
     | (go_at_call 105;refine (C3.out _).mono ?_;rintro e w3 ⟨rfl,k3⟩;have K3:=K2.trans k3))
    go_ret
    exact ⟨by rw [Hr.out];rfl,kW.trans K3⟩
   ·have q4:l9 s g=true:=by rw [HB.out,q1,q2,q3];rfl
    have HA2:Hid ((s.af.take (k+1)).all (l9 s)=true):=rK _ Hg.out HA.out q4
    rw [q3] at C3
    clear q4
    go_wp2_with (first
     | (go_at_call 106;refine (C1.out _).mono ?_;rintro e w1 ⟨rfl,k1⟩;have K1:=(hK.alloc (.cells (cP g) 87)).trans k1;have bx1:=BX w1 k1;clear k1)
     | (go_at_call 94;refine (C2.out _).mono ?_;rintro e w2 ⟨rfl,k2⟩;have K2:=K1.trans k2)
     | (go_at_call 105;refine (C3.out _).mono ?_;rintro e w3 ⟨rfl,k3⟩;have K3:=K2.trans k3))
    exact ⟨⟨k+1,by omega,by go_num,HA2,K3⟩,by simp only [intOf];omega⟩
  ·have hlt':decide ((k:Int) < (gn:Int))=false:=by simp;omega
   have hd:decide ((gn:Int) <= 12)=decide (gn <= 12):=by rw [Bool.eq_iff_iff];simp only [decide_eq_true_eq];omega
   have Hr:Hid (eZ s=decide (gn <= 12)):=by
    have h1:=HA.out
    rw [List.take_of_length_le (by have:=Hn.out;omega)] at h1
    show _=_
    rw [HE.out,h1];rfl
   obtain ⟨z,hz⟩:∃ z,decide (gn <= 12)=z:=⟨_,rfl⟩
   rw [hz] at hd Hr
   clear hz HE HA hG
   go_wp2
   go_ret
   exact ⟨by rw [Hr.out,<- hd];rfl,kW.trans hK⟩
theorem yr {w:World} {base:Nat} {u:Value} {xs:List (Int × Int)} (h:dQ w base u xs):Calls Tryz.prog 19 #[u] w fun e w'=>e = .returned (.bool (ji xs)) /\ aa w w':=by
 obtain ⟨a,cap,rfl,l,h1,h2⟩:=h.slice iR
 exact F7 a cap xs w (by omega) (yt l)
set_option maxHeartbeats 2000000 in
theorem F8 {w:World} {v:Sv} {s:Sy} (h:aA w v s) (hc:inv0 s=true) :
  Calls Tryz.prog 66 #[.agg (ae s v)] w fun e w'=>e = .returned (.bool (gi s)) /\ aa w w':=by
 obtain ⟨c,hcc,hc4⟩:∃ c:Nat,s.az=(c:Int) /\ c <= 4:=by
  unfold inv0 at hc
  simp only [Bool.and_eq_true,dq] at hc
  exact ⟨s.az.toNat,by omega,by omega⟩
 have nX:Hid (s.az=(c:Int)):=hcc
 clear hcc
 have kW:=dw w (.cells (ae s v) 30)
 have hb:=dA w (ae s v) 30
 have HS:Hid (aA (w.alloc (.cells (ae s v) 30)) v s):=h.keeps kW
 have HC:Hid (∀ (x:Int) w',aa (w.alloc (.cells (ae s v) 30)) w'->Calls Tryz.prog 16 #[.agg (ae s v),.int .i64 x] w' fun e w''=>∃ u,e = .returned u /\ dQ w'' w'.heap.size u (dH s x) /\ aa w' w''):=fun x w' k=>tL w' v s x (HS.out.keeps k)
 have HE:Hid (gi s=(List.range c).all (fun c=>ji (dH s (c:Int)))):=by show _=_;unfold gi;rw [nX.out,Int.toNat_natCast]
 clear h HS hc
 go_enter Tryz.func66,Tryz.ntmps66
 go_wp2
 generalize w.alloc (.cells (ae s v) 30)=W at *
 go_loopw [6] (fun i wr=>∃ k:Nat,k <= c /\ i = .int .i64 k /\ Hid ((List.range k).all (fun c=>ji (dH s (c:Int)))=true) /\ aa W wr) (fun i _=>c - (intOf i).toNat)
 case atStart=>exact ⟨0,Nat.zero_le _,rfl,by show _=_;simp,aa.refl _⟩
 case round =>
  obtain ⟨k,hk,rfl,HA,hK⟩:=hrel
  by_cases hlt:k < c
  ·have hlt':(k:Int) < (c:Int):=by omega
   have F9:decide ((k:Int) < s.az)=true:=by have:=nX.out;simp;omega
   have SH:Hid (∀ w',aa W w'->Calls Tryz.prog 16 #[.agg (ae s v),.int .i64 (k:Int)] w' fun e w''=>∃ u,e = .returned u /\ dQ w'' w'.heap.size u (dH s k) /\ aa w' w''):=fun w' h=>HC.out k w' h
   clear HC
   cases q:ji (dH s k)
   ·have Hr:Hid (gi s=false):=by
     show _=_
     rw [HE.out,mc _ (k:=k) (x:=k) (by simp [hlt]) q]
    go_wp2_with (first
     | (go_at_call 16;refine (SH.out _ hK).mono ?_;rintro e w1 ⟨u,rfl,ou,k1⟩;have OU:Hid (dQ w1 wr.heap.size u (dH s k)):=ou;clear ou)
     | (go_at_call 19;refine (yr OU.out).mono ?_;rintro e w2 ⟨rfl,k2⟩;rw [q]))
    go_ret
    exact ⟨by rw [Hr.out];rfl,kW.trans (hK.trans (k1.trans k2))⟩
   ·have HA2:Hid ((List.range (k+1)).all (fun c=>ji (dH s (c:Int)))=true):=by
     show _=_
     rw [List.range_succ,List.all_append,HA.out]
     simp only [List.all_cons,List.all_nil,Bool.and_true,Bool.true_and]
     exact q
    go_wp2_with (first
     | (go_at_call 16;refine (SH.out _ hK).mono ?_;rintro e w1 ⟨u,rfl,ou,k1⟩;have OU:Hid (dQ w1 wr.heap.size u (dH s k)):=ou;clear ou)
     | (go_at_call 19;refine (yr OU.out).mono ?_;rintro e w2 ⟨rfl,k2⟩;rw [q]))
    exact ⟨⟨k+1,by omega,by go_num,HA2,hK.trans (k1.trans k2)⟩,by simp only [intOf];omega⟩
  ·have hlt':decide ((k:Int) < s.az)=false:=by have:=nX.out;simp;omega
   have Hr:Hid (gi s=true):=by
    show _=_
    rw [HE.out,show c=k from by omega,HA.out]
   go_wp2
   go_ret
   exact ⟨by rw [Hr.out];rfl,kW.trans hK⟩
set_option maxHeartbeats 2000000 in
theorem Ga {w:World} {v:Sv} {s:Sy} (h:aA w v s) :
  Calls Tryz.prog 67 #[.agg (ae s v)] w fun e w'=>e = .returned (.bool (gj s)) /\ aa w w':=by
 obtain ⟨vt,vl,vg,⟨fa,fn,aj⟩,vr⟩:=v
 have hm1:fn <= 2000000:=by have h1:=h.size;have h2:s.ax.length=fn:=h.lay.fl;unfold bE at h1;omega
 have Hn:Hid (s.ax.length=fn):=h.lay.fl
 have kW:=dw w (.cells (ae s ⟨vt,vl,vg,⟨fa,fn,aj⟩,vr⟩) 30)
 have hb:=dA w (ae s ⟨vt,vl,vg,⟨fa,fn,aj⟩,vr⟩) 30
 have HS:Hid (aA (w.alloc (.cells (ae s ⟨vt,vl,vg,⟨fa,fn,aj⟩,vr⟩) 30)) ⟨vt,vl,vg,⟨fa,fn,aj⟩,vr⟩ s):=h.keeps kW
 have hF:Hid (Ns (w.alloc (.cells (ae s ⟨vt,vl,vg,⟨fa,fn,aj⟩,vr⟩) 30)) fa s.ax):=HS.out.lay.f
 have HE:Hid (gj s=(s.ax.all (fun f=>aH f 0 100000000)&&((fn:Int)==s.az))):=by show _=_;unfold gj;rw [Hn.out]
 clear h HS
 go_enter Tryz.func67,Tryz.ntmps67
 go_wp2
 generalize w.alloc (.cells (ae s ⟨vt,vl,vg,⟨fa,fn,aj⟩,vr⟩) 30)=W at *
 go_loopw [8] (fun i wr=>∃ k:Nat,k <= fn /\ i = .int .i64 k /\ Hid ((s.ax.take k).all (fun f=>aH f 0 100000000)=true) /\ aa W wr) (fun i _=>fn - (intOf i).toNat)
 case atStart=>exact ⟨0,Nat.zero_le _,rfl,by show _=_;simp,aa.refl _⟩
 case round =>
  obtain ⟨k,hk,rfl,HA,hK⟩:=hrel
  by_cases hlt:k < fn
  ·obtain ⟨x,hx⟩:=cd (xs:=s.ax) (k:=k) (by rw [Hn.out];exact hlt)
   obtain ⟨b,off,rfl,r0⟩:=hF.out.at hx
   have hlt':(k:Int) < (fn:Int):=by omega
   have Hx:Hid (s.ax[k]?=some x):=hx
   clear hx hF
   cases q:aH x 0 100000000
   ·have Hr:Hid (gj s=false):=by show _=_;rw [HE.out,mc _ Hx.out q];rfl
    go_wp2_with (go_at_call 105;refine (eW _ _ _ _).mono ?_;rintro e w' ⟨rfl,hw'⟩;have hw2:=hw'.symm;subst hw2;rw [q])
    go_ret
    exact ⟨by rw [Hr.out];rfl,kW.trans hK⟩
   ·have HA2:Hid ((s.ax.take (k+1)).all (fun f=>aH f 0 100000000)=true):=rK _ Hx.out HA.out q
    go_wp2_with (go_at_call 105;refine (eW _ _ _ _).mono ?_;rintro e w' ⟨rfl,hw'⟩;have hw2:=hw'.symm;subst hw2;rw [q])
    exact ⟨⟨k+1,by omega,by go_num,HA2,hK⟩,by simp only [intOf];omega⟩
  ·have hlt':decide ((k:Int) < (fn:Int))=false:=by simp;omega
   have Hr:Hid (gj s=((fn:Int)==s.az)):=by
    have h1:=HA.out
    rw [List.take_of_length_le (by have:=Hn.out;omega)] at h1
    show _=_
    rw [HE.out,h1];rfl
   clear HE HA hF
   go_wp2
   go_ret
   exact ⟨by rw [Hr.out];rfl,kW.trans hK⟩
def Gb (r:Value) (b:Bool):Prop:=(b=true /\ r = .nilIface)∨(b=false /\ ∃ x:Int,r = .iface 60 (.agg #[.int .i64 x]))
theorem Gc (w:World):(Instr.index 122 (.agg #[.func (.func 62) #[] #[],.func (.func 63) #[] #[],.func (.func 64) #[] #[],.func (.func 65) #[] #[],.func (.func 66) #[] #[],.func (.func 67) #[] #[],.func (.func 68) #[] #[]]) (.int .i64 0)).run Tryz.prog w = .ok (.func (.func 62) #[] #[]) w:=by kernel_rfl
theorem Gd (w:World):(Instr.index 122 (.agg #[.func (.func 62) #[] #[],.func (.func 63) #[] #[],.func (.func 64) #[] #[],.func (.func 65) #[] #[],.func (.func 66) #[] #[],.func (.func 67) #[] #[],.func (.func 68) #[] #[]]) (.int .i64 1)).run Tryz.prog w = .ok (.func (.func 63) #[] #[]) w:=by kernel_rfl
theorem Ge (w:World):(Instr.index 122 (.agg #[.func (.func 62) #[] #[],.func (.func 63) #[] #[],.func (.func 64) #[] #[],.func (.func 65) #[] #[],.func (.func 66) #[] #[],.func (.func 67) #[] #[],.func (.func 68) #[] #[]]) (.int .i64 2)).run Tryz.prog w = .ok (.func (.func 64) #[] #[]) w:=by kernel_rfl
theorem Gf (w:World):(Instr.index 122 (.agg #[.func (.func 62) #[] #[],.func (.func 63) #[] #[],.func (.func 64) #[] #[],.func (.func 65) #[] #[],.func (.func 66) #[] #[],.func (.func 67) #[] #[],.func (.func 68) #[] #[]]) (.int .i64 3)).run Tryz.prog w = .ok (.func (.func 65) #[] #[]) w:=by kernel_rfl
theorem Gg (w:World):(Instr.index 122 (.agg #[.func (.func 62) #[] #[],.func (.func 63) #[] #[],.func (.func 64) #[] #[],.func (.func 65) #[] #[],.func (.func 66) #[] #[],.func (.func 67) #[] #[],.func (.func 68) #[] #[]]) (.int .i64 4)).run Tryz.prog w = .ok (.func (.func 66) #[] #[]) w:=by kernel_rfl
theorem Gi (w:World):(Instr.index 122 (.agg #[.func (.func 62) #[] #[],.func (.func 63) #[] #[],.func (.func 64) #[] #[],.func (.func 65) #[] #[],.func (.func 66) #[] #[],.func (.func 67) #[] #[],.func (.func 68) #[] #[]]) (.int .i64 5)).run Tryz.prog w = .ok (.func (.func 67) #[] #[]) w:=by kernel_rfl
theorem Gj (w:World):(Instr.index 122 (.agg #[.func (.func 62) #[] #[],.func (.func 63) #[] #[],.func (.func 64) #[] #[],.func (.func 65) #[] #[],.func (.func 66) #[] #[],.func (.func 67) #[] #[],.func (.func 68) #[] #[]]) (.int .i64 6)).run Tryz.prog w = .ok (.func (.func 68) #[] #[]) w:=by kernel_rfl
attribute [local go_sem] Gc Gd Ge Gf Gg Gi Gj
set_option maxHeartbeats 8000000 in
theorem Gk {w:World} {v:Sv} {s:Sy} (h:aA w v s) :
  Calls Tryz.prog 26 #[.agg (ae s v)] w fun e w'=>∃ r,e = .returned r /\ Gb r (pU s) /\ aa w w':=by
 have kW:=dw w (.cells (ae s v) 30)
 have hb:=dA w (ae s v) 30
 have HS:Hid (aA (w.alloc (.cells (ae s v) 30)) v s):=h.keeps kW
 have HE:Hid (pU s=(inv0 s&&(inv1 s&&(inv2 s&&(eZ s&&(gi s&&(gj s&&fR s))))))):=rfl
 have C0:Hid (∀ w',aa (w.alloc (.cells (ae s v) 30)) w'->Calls Tryz.prog 62 #[.agg (ae s v)] w' fun e w''=>e = .returned (.bool (inv0 s)) /\ aa w' w''):=fun w' _=>FW s v w'
 have C1:Hid (∀ w',aa (w.alloc (.cells (ae s v) 30)) w'->Calls Tryz.prog 63 #[.agg (ae s v)] w' fun e w''=>e = .returned (.bool (inv1 s)) /\ aa w' w''):=fun w' k=>FY (HS.out.keeps k)
 have C2:Hid (∀ w',aa (w.alloc (.cells (ae s v) 30)) w'->Calls Tryz.prog 64 #[.agg (ae s v)] w' fun e w''=>e = .returned (.bool (inv2 s)) /\ aa w' w''):=fun w' k=>F3 (HS.out.keeps k)
 have C3:Hid (∀ w',aa (w.alloc (.cells (ae s v) 30)) w'->Calls Tryz.prog 65 #[.agg (ae s v)] w' fun e w''=>e = .returned (.bool (eZ s)) /\ aa w' w''):=fun w' k=>F4 (HS.out.keeps k)
 have C4:Hid (∀ w',aa (w.alloc (.cells (ae s v) 30)) w'->inv0 s=true->Calls Tryz.prog 66 #[.agg (ae s v)] w' fun e w''=>e = .returned (.bool (gi s)) /\ aa w' w''):=fun w' k hc=>F8 (HS.out.keeps k) hc
 have C5:Hid (∀ w',aa (w.alloc (.cells (ae s v) 30)) w'->Calls Tryz.prog 67 #[.agg (ae s v)] w' fun e w''=>e = .returned (.bool (gj s)) /\ aa w' w''):=fun w' k=>Ga (HS.out.keeps k)
 have C6:Hid (∀ w',aa (w.alloc (.cells (ae s v) 30)) w'->Calls Tryz.prog 68 #[.agg (ae s v)] w' fun e w''=>e = .returned (.bool (fR s)) /\ aa w' w''):=fun w' k=>FX (HS.out.keeps k)
 clear h HS
 obtain ⟨q0,hq0⟩:∃ q,inv0 s=q:=⟨_,rfl⟩
 obtain ⟨q1,hq1⟩:∃ q,inv1 s=q:=⟨_,rfl⟩
 obtain ⟨q2,hq2⟩:∃ q,inv2 s=q:=⟨_,rfl⟩
 obtain ⟨q3,hq3⟩:∃ q,eZ s=q:=⟨_,rfl⟩
 obtain ⟨q4,hq4⟩:∃ q,gi s=q:=⟨_,rfl⟩
 obtain ⟨q5,yu⟩:∃ q,gj s=q:=⟨_,rfl⟩
 obtain ⟨q6,yw⟩:∃ q,fR s=q:=⟨_,rfl⟩
 rw [hq0] at C0 C4 HE
 rw [hq1] at C1 HE
 rw [hq2] at C2 HE
 rw [hq3] at C3 HE
 rw [hq4] at C4 HE
 rw [yu] at C5 HE
 rw [yw] at C6 HE
 clear hq0 hq1 hq2 hq3 hq4 yu yw
 have kX:aa (w.alloc (.cells (ae s v) 30)) ((w.alloc (.cells (ae s v) 30)).alloc (.cells #[.func (.func 62) #[] #[],.func (.func 63) #[] #[],.func (.func 64) #[] #[],.func (.func 65) #[] #[],.func (.func 66) #[] #[],.func (.func 67) #[] #[],.func (.func 68) #[] #[]] 122)):=(aa.refl _).alloc _
 go_enter Tryz.func26,Tryz.ntmps26
 go_wp2
 have Kn:=kW.trans kX
 have HW:Hid (aa (w.alloc (.cells (ae s v) 30)) ((w.alloc (.cells (ae s v) 30)).alloc (.cells #[.func (.func 62) #[] #[],.func (.func 63) #[] #[],.func (.func 64) #[] #[],.func (.func 65) #[] #[],.func (.func 66) #[] #[],.func (.func 67) #[] #[],.func (.func 68) #[] #[]] 122))):=kX
 clear kX
 generalize (w.alloc (.cells (ae s v) 30)).alloc (.cells #[.func (.func 62) #[] #[],.func (.func 63) #[] #[],.func (.func 64) #[] #[],.func (.func 65) #[] #[],.func (.func 66) #[] #[],.func (.func 67) #[] #[],.func (.func 68) #[] #[]] 122)=Y at *
 generalize w.alloc (.cells (ae s v) 30)=W at *
 go_loopw [8] (fun i wr=>((i = .int .i64 0)∨(i = .int .i64 1 /\ q0=true)∨(i = .int .i64 2 /\ q0=true /\ q1=true)∨(i = .int .i64 3 /\ q0=true /\ q1=true /\ q2=true)∨(i = .int .i64 4 /\ q0=true /\ q1=true /\ q2=true /\ q3=true)∨(i = .int .i64 5 /\ q0=true /\ q1=true /\ q2=true /\ q3=true /\ q4=true)∨(i = .int .i64 6 /\ q0=true /\ q1=true /\ q2=true /\ q3=true /\ q4=true /\ q5=true)∨(i = .int .i64 7 /\ q0=true /\ q1=true /\ q2=true /\ q3=true /\ q4=true /\ q5=true /\ q6=true)) /\ aa W wr) (fun i _=>7 - (intOf i).toNat)
 case atStart=>exact ⟨.inl rfl,HW.out⟩
 case round =>
  obtain ⟨hi,hK⟩:=hrel
  rcases hi with rfl | ⟨rfl,rfl⟩ | ⟨rfl,rfl,rfl⟩ | ⟨rfl,rfl,rfl,rfl⟩ | ⟨rfl,rfl,rfl,rfl,rfl⟩ | ⟨rfl,rfl,rfl,rfl,rfl,rfl⟩ | ⟨rfl,rfl,rfl,rfl,rfl,rfl,rfl⟩ | ⟨rfl,rfl,rfl,rfl,rfl,rfl,rfl,rfl⟩
  ·cases q0
   ·go_wp2_with (go_at_call 62;refine (C0.out _ hK).mono ?_;rintro e w1 ⟨rfl,k1⟩)
    go_ret
    exact ⟨_,rfl,.inr ⟨by rw [HE.out];rfl,_,rfl⟩,kW.trans (hK.trans k1)⟩
   ·go_wp2_with (go_at_call 62;refine (C0.out _ hK).mono ?_;rintro e w1 ⟨rfl,k1⟩)
    exact ⟨⟨by simp,hK.trans k1⟩,by simp [intOf]⟩
  ·cases q1
   ·go_wp2_with (go_at_call 63;refine (C1.out _ hK).mono ?_;rintro e w1 ⟨rfl,k1⟩)
    go_ret
    exact ⟨_,rfl,.inr ⟨by rw [HE.out];rfl,_,rfl⟩,kW.trans (hK.trans k1)⟩
   ·go_wp2_with (go_at_call 63;refine (C1.out _ hK).mono ?_;rintro e w1 ⟨rfl,k1⟩)
    exact ⟨⟨by simp,hK.trans k1⟩,by simp [intOf]⟩
  ·cases q2
   ·go_wp2_with (go_at_call 64;refine (C2.out _ hK).mono ?_;rintro e w1 ⟨rfl,k1⟩)
    go_ret
    exact ⟨_,rfl,.inr ⟨by rw [HE.out];rfl,_,rfl⟩,kW.trans (hK.trans k1)⟩
   ·go_wp2_with (go_at_call 64;refine (C2.out _ hK).mono ?_;rintro e w1 ⟨rfl,k1⟩)
    exact ⟨⟨by simp,hK.trans k1⟩,by simp [intOf]⟩
  ·cases q3
   ·go_wp2_with (go_at_call 65;refine (C3.out _ hK).mono ?_;rintro e w1 ⟨rfl,k1⟩)
    go_ret
    exact ⟨_,rfl,.inr ⟨by rw [HE.out];rfl,_,rfl⟩,kW.trans (hK.trans k1)⟩
   ·go_wp2_with (go_at_call 65;refine (C3.out _ hK).mono ?_;rintro e w1 ⟨rfl,k1⟩)
    exact ⟨⟨by simp,hK.trans k1⟩,by simp [intOf]⟩
  ·cases q4
   ·go_wp2_with (go_at_call 66;refine (C4.out _ hK rfl).mono ?_;rintro e w1 ⟨rfl,k1⟩)
    go_ret
    exact ⟨_,rfl,.inr ⟨by rw [HE.out];rfl,_,rfl⟩,kW.trans (hK.trans k1)⟩
   ·go_wp2_with (go_at_call 66;refine (C4.out _ hK rfl).mono ?_;rintro e w1 ⟨rfl,k1⟩)
    exact ⟨⟨by simp,hK.trans k1⟩,by simp [intOf]⟩
  ·cases q5
   ·go_wp2_with (go_at_call 67;refine (C5.out _ hK).mono ?_;rintro e w1 ⟨rfl,k1⟩)
    go_ret
    exact ⟨_,rfl,.inr ⟨by rw [HE.out];rfl,_,rfl⟩,kW.trans (hK.trans k1)⟩
   ·go_wp2_with (go_at_call 67;refine (C5.out _ hK).mono ?_;rintro e w1 ⟨rfl,k1⟩)
    exact ⟨⟨by simp,hK.trans k1⟩,by simp [intOf]⟩
  ·cases q6
   ·go_wp2_with (go_at_call 68;refine (C6.out _ hK).mono ?_;rintro e w1 ⟨rfl,k1⟩)
    go_ret
    exact ⟨_,rfl,.inr ⟨by rw [HE.out];rfl,_,rfl⟩,kW.trans (hK.trans k1)⟩
   ·go_wp2_with (go_at_call 68;refine (C6.out _ hK).mono ?_;rintro e w1 ⟨rfl,k1⟩)
    exact ⟨⟨by simp,hK.trans k1⟩,by simp [intOf]⟩
  ·go_wp2
   go_ret
   exact ⟨_,rfl,.inl ⟨by rw [HE.out];rfl,rfl⟩,kW.trans hK⟩
set_option maxHeartbeats 2000000 in
theorem xy:FF:=by
 intro w v s hg h
 have HI:Hid (pU s=aY s):=Fc s
 have kW:aa w ((w.alloc (.cells (ae s v) 30)).alloc (.cells #[.int .i64 0] 60)):=((aa.refl w).alloc _).alloc _
 have hb:∀ w',aa ((w.alloc (.cells (ae s v) 30)).alloc (.cells #[.int .i64 0] 60)) w'->∀ j,w'.cell? ⟨w.heap.size,j,none⟩=(ae s v)[j]?:=fun w' k=>(((aq.new w (ae s v) 30).alloc _).keeps k).cells
 have B1:Hid (aq ((w.alloc (.cells (ae s v) 30)).alloc (.cells #[.int .i64 0] 60)) (w.heap.size+1) #[.int .i64 0]):=by
  have:=aq.new (w.alloc (.cells (ae s v) 30)) #[.int .i64 0] 60
  show aq _ _ _
  simpa using this
 have HS:Hid (aA ((w.alloc (.cells (ae s v) 30)).alloc (.cells #[.int .i64 0] 60)) v s):=h.keeps kW
 have HG:Hid (dm ((w.alloc (.cells (ae s v) 30)).alloc (.cells #[.int .i64 0] 60))):=hg.keeps kW
 clear h hg
 go_enter Tryz.func8,Tryz.ntmps8
 go_wp2_with fail
 generalize (w.alloc (.cells (ae s v) 30)).alloc (.cells #[.int .i64 0] 60)=W at *
 refine (Gk HS.out).mono ?_
 rintro e w1 ⟨r,rfl,hr,k1⟩
 rw [HI.out] at hr
 rcases hr with ⟨hr,rfl⟩ | ⟨hr,x,rfl⟩
 ·have Hr:Hid (aY s=true):=hr
  clear hr
  go_wp2_with (go_at_call 25;refine (Dl _ _).mono ?_;rintro e w2 ⟨rfl,hw2⟩;have hw3:=hw2.symm;subst hw3)
  go_ret
  exact ⟨by rw [Hr.out];rfl,kW.trans k1⟩
 ·have Hr:Hid (aY s=false):=hr
  have B2:=B1.out.keeps k1
  have hc:w1.cell? ⟨w.heap.size+1,0,none⟩=some (.int .i64 0):=by rw [B2.cells 0];rfl
  have hz:w1.frozen? ⟨w.heap.size+1,0,none⟩=false:=B2.aO 0
  have HA:Hid (Calls Tryz.prog 25 #[.iface 60 (.agg #[.int .i64 x]),.iface 65 (.pointer (some ⟨w.heap.size+1,0,none⟩))] w1 fun ev w'=>ev = .returned (.bool true) /\ aa w w'):=(DQ x (w.heap.size+1) _ w1 (HG.out.keeps k1) hc hz).mono fun ev w' ⟨h1,h2⟩=>⟨h1,by
   rw [h2]
   exact ((((((kW.trans k1).alloc _).alloc _).alloc _).alloc _).setCell (by show w.heap.size <= w.heap.size+1;omega) _)⟩
  clear hr B2 hc hz
  go_wp2_with (go_at_call 25;refine HA.out.mono ?_;rintro e w2 ⟨rfl,k2⟩)
  go_ret
  exact ⟨by rw [Hr.out];rfl,k2⟩
end
def Gl (g:Nat) (w:World) (e:Ending) (w':World):Prop:=∃ c:Cl,e = .returned (ck c) /\ bf w' g /\ ab g w w'
theorem oB {g rb:Nat} {w wn:World} (c:Cl) (R:aq wn rb dG) (hg:g < w.heap.size) (hr:w.heap.size <= rb) (hc:bf wn g) (k:ab g w wn) :
  aq (putC wn rb 0 (cc c).toList) rb (cc c) /\ bf (putC wn rb 0 (cc c).toList) g /\ ab g w (putC wn rb 0 (cc c).toList) :=
 fV R hg hr k hc (ab.refl g wn) c
set_option maxHeartbeats 8000000 in
theorem xx {w:World} {g:Nat} (hc:bf w g) (c:Cl) :
  Calls Tryz.prog 23 #[.pointer (some ⟨g,0,none⟩),ck c] w (Gl g w):=by
 have hgl:=hc.lt
 have kZ:aa w ((w.alloc (.cells (cc c) 32)).alloc (.cells dG 32)):=((aa.refl w).alloc _).alloc _
 have B0:Hid (aq ((w.alloc (.cells (cc c) 32)).alloc (.cells dG 32)) w.heap.size (cc c)):=(aq.new _ _ _).alloc _
 have R0:Hid (aq ((w.alloc (.cells (cc c) 32)).alloc (.cells dG 32)) (w.heap.size+1) dG):=by
  have:=aq.new (w.alloc (.cells (cc c) 32)) dG 32
  show aq _ _ _
  simpa using this
 have HC:=hc.keeps kZ
 have KZ:Hid (ab g w ((w.alloc (.cells (cc c) 32)).alloc (.cells dG 32))) := .of kZ
 clear hc kZ
 go_enter Tryz.func23,Tryz.ntmps23
 go_upto_region 1 with fail
 change Code.wp _ _ _ _ ((w.alloc (.cells (cc c) 32)).alloc (.cells dG 32))
 generalize (w.alloc (.cells (cc c) 32)).alloc (.cells dG 32)=Z at *
 go_upto_region 2 with (go_at_call 49;refine (cl g _ _ HC (by omega) (by omega)).mono ?_;rintro e w1 ⟨m,rfl,m0,m1,hc1,k1⟩)
 have eS:w.heap.size≠g:=by omega
 have hrb:w.heap.size+1≠g:=by omega
 have B1:Hid (aq w1 w.heap.size (cc c)):=B0.out.but k1 eS
 have R1:Hid (aq w1 (w.heap.size+1) dG):=R0.out.but k1 hrb
 have K1:Hid (ab g w w1):=KZ.out.trans k1
 clear B0 R0 KZ k1 HC
 by_cases h0:m=0
 ·subst h0
  go_upto_region 12 with (go_at_call 49;refine (cl g _ _ hc1 (by omega) (by omega)).mono ?_;rintro e w2 ⟨x,rfl,x0,x1,hc2,k2⟩;obtain ⟨_,z1,z2⟩:=B1.out.but k2 eS)
  change Code.wp _ _ _ _ (w2.setCell ⟨w.heap.size,0,none⟩ (.int .i64 x))
  have BY:Hid (aq (w2.setCell ⟨w.heap.size,0,none⟩ (.int .i64 x)) w.heap.size (cc ⟨x,c.no,c.cpu,c.a,c.b⟩)):=(B1.out.but k2 eS).set 0 (by show 0 < 5;omega) _
  have RY:Hid (aq (w2.setCell ⟨w.heap.size,0,none⟩ (.int .i64 x)) (w.heap.size+1) dG):=(R1.out.but k2 hrb).far (by omega) _
  have CY:=hc2.aI (b:=w.heap.size) (by omega) 0 (.int .i64 x)
  have KY:Hid (ab g w (w2.setCell ⟨w.heap.size,0,none⟩ (.int .i64 x))):=(K1.out.trans k2).aI (p:=⟨w.heap.size,0,none⟩) (Nat.le_refl _) _
  clear z1 z2 B1 R1 K1 k2 hc2
  generalize (w2.setCell ⟨w.heap.size,0,none⟩ (.int .i64 x))=Y at *
  obtain ⟨_,y1,y2⟩:=BY.out
  obtain ⟨_,y3,y4⟩:=RY.out
  dsimp only [cc] at y1
  dsimp only [dG] at y3
  obtain ⟨D,CQ,KQ⟩:=oB ⟨x,c.no,c.cpu,c.a,c.b⟩ RY.out hgl (by omega) CY KY.out
  go_wp2
  change bodyPost _ _ _ _ _ (putC Y (w.heap.size+1) 0 (cc ⟨x,c.no,c.cpu,c.a,c.b⟩).toList)
  generalize putC Y (w.heap.size+1) 0 (cc ⟨x,c.no,c.cpu,c.a,c.b⟩).toList=Q at D CQ KQ ⊢
  exact bodyPost_ret (v:=ck ⟨x,c.no,c.cpu,c.a,c.b⟩) (by simp [results,Tryz.results23,go_sem,D.cells]) rfl ⟨⟨x,c.no,c.cpu,c.a,c.b⟩,rfl,CQ,KQ⟩
 by_cases h1:m=1
 ·subst h1
  go_upto_region 12 with (go_at_call 50;refine (iu (fun _=>True) g [0,-1,1000,1001] _ _ _ _ _ w1 rfl hc1 rfl (by decide) (by decide) rfl (fun _ _=>trivial)).mono ?_;rintro e w2 ⟨x,rfl,-,hc2,k2⟩;obtain ⟨_,z1,z2⟩:=B1.out.but k2 eS)
  change Code.wp _ _ _ _ (w2.setCell ⟨w.heap.size,1,none⟩ (.int .i64 x))
  have BY:Hid (aq (w2.setCell ⟨w.heap.size,1,none⟩ (.int .i64 x)) w.heap.size (cc ⟨c.kind,x,c.cpu,c.a,c.b⟩)):=(B1.out.but k2 eS).set 1 (by show 1 < 5;omega) _
  have RY:Hid (aq (w2.setCell ⟨w.heap.size,1,none⟩ (.int .i64 x)) (w.heap.size+1) dG):=(R1.out.but k2 hrb).far (by omega) _
  have CY:=hc2.aI (b:=w.heap.size) (by omega) 1 (.int .i64 x)
  have KY:Hid (ab g w (w2.setCell ⟨w.heap.size,1,none⟩ (.int .i64 x))):=(K1.out.trans k2).aI (p:=⟨w.heap.size,1,none⟩) (Nat.le_refl _) _
  clear z1 z2 B1 R1 K1 k2 hc2
  generalize (w2.setCell ⟨w.heap.size,1,none⟩ (.int .i64 x))=Y at *
  obtain ⟨_,y1,y2⟩:=BY.out
  obtain ⟨_,y3,y4⟩:=RY.out
  dsimp only [cc] at y1
  dsimp only [dG] at y3
  obtain ⟨D,CQ,KQ⟩:=oB ⟨c.kind,x,c.cpu,c.a,c.b⟩ RY.out hgl (by omega) CY KY.out
  go_wp2
  change bodyPost _ _ _ _ _ (putC Y (w.heap.size+1) 0 (cc ⟨c.kind,x,c.cpu,c.a,c.b⟩).toList)
  generalize putC Y (w.heap.size+1) 0 (cc ⟨c.kind,x,c.cpu,c.a,c.b⟩).toList=Q at D CQ KQ ⊢
  exact bodyPost_ret (v:=ck ⟨c.kind,x,c.cpu,c.a,c.b⟩) (by simp [results,Tryz.results23,go_sem,D.cells]) rfl ⟨⟨c.kind,x,c.cpu,c.a,c.b⟩,rfl,CQ,KQ⟩
 by_cases h2:m=2
 ·subst h2
  go_upto_region 12 with (go_at_call 50;refine (iu (fun _=>True) g [-1,3,4,9223372036854775807] _ _ _ _ _ w1 rfl hc1 rfl (by decide) (by decide) rfl (fun _ _=>trivial)).mono ?_;rintro e w2 ⟨x,rfl,-,hc2,k2⟩;obtain ⟨_,z1,z2⟩:=B1.out.but k2 eS)
  change Code.wp _ _ _ _ (w2.setCell ⟨w.heap.size,2,none⟩ (.int .i64 x))
  have BY:Hid (aq (w2.setCell ⟨w.heap.size,2,none⟩ (.int .i64 x)) w.heap.size (cc ⟨c.kind,c.no,x,c.a,c.b⟩)):=(B1.out.but k2 eS).set 2 (by show 2 < 5;omega) _
  have RY:Hid (aq (w2.setCell ⟨w.heap.size,2,none⟩ (.int .i64 x)) (w.heap.size+1) dG):=(R1.out.but k2 hrb).far (by omega) _
  have CY:=hc2.aI (b:=w.heap.size) (by omega) 2 (.int .i64 x)
  have KY:Hid (ab g w (w2.setCell ⟨w.heap.size,2,none⟩ (.int .i64 x))):=(K1.out.trans k2).aI (p:=⟨w.heap.size,2,none⟩) (Nat.le_refl _) _
  clear z1 z2 B1 R1 K1 k2 hc2
  generalize (w2.setCell ⟨w.heap.size,2,none⟩ (.int .i64 x))=Y at *
  obtain ⟨_,y1,y2⟩:=BY.out
  obtain ⟨_,y3,y4⟩:=RY.out
  dsimp only [cc] at y1
  dsimp only [dG] at y3
  obtain ⟨D,CQ,KQ⟩:=oB ⟨c.kind,c.no,x,c.a,c.b⟩ RY.out hgl (by omega) CY KY.out
  go_wp2
  change bodyPost _ _ _ _ _ (putC Y (w.heap.size+1) 0 (cc ⟨c.kind,c.no,x,c.a,c.b⟩).toList)
  generalize putC Y (w.heap.size+1) 0 (cc ⟨c.kind,c.no,x,c.a,c.b⟩).toList=Q at D CQ KQ ⊢
  exact bodyPost_ret (v:=ck ⟨c.kind,c.no,x,c.a,c.b⟩) (by simp [results,Tryz.results23,go_sem,D.cells]) rfl ⟨⟨c.kind,c.no,x,c.a,c.b⟩,rfl,CQ,KQ⟩
 by_cases h3:m=3
 ·subst h3
  go_upto_region 12 with (go_at_call 50;refine (iu (fun _=>True) g [-5,0,5,41,51,9223372036854775807] _ _ _ _ _ w1 rfl hc1 rfl (by decide) (by decide) rfl (fun _ _=>trivial)).mono ?_;rintro e w2 ⟨x,rfl,-,hc2,k2⟩;obtain ⟨_,z1,z2⟩:=B1.out.but k2 eS)
  change Code.wp _ _ _ _ (w2.setCell ⟨w.heap.size,3,none⟩ (.int .i64 x))
  have BY:Hid (aq (w2.setCell ⟨w.heap.size,3,none⟩ (.int .i64 x)) w.heap.size (cc ⟨c.kind,c.no,c.cpu,x,c.b⟩)):=(B1.out.but k2 eS).set 3 (by show 3 < 5;omega) _
  have RY:Hid (aq (w2.setCell ⟨w.heap.size,3,none⟩ (.int .i64 x)) (w.heap.size+1) dG):=(R1.out.but k2 hrb).far (by omega) _
  have CY:=hc2.aI (b:=w.heap.size) (by omega) 3 (.int .i64 x)
  have KY:Hid (ab g w (w2.setCell ⟨w.heap.size,3,none⟩ (.int .i64 x))):=(K1.out.trans k2).aI (p:=⟨w.heap.size,3,none⟩) (Nat.le_refl _) _
  clear z1 z2 B1 R1 K1 k2 hc2
  generalize (w2.setCell ⟨w.heap.size,3,none⟩ (.int .i64 x))=Y at *
  obtain ⟨_,y1,y2⟩:=BY.out
  obtain ⟨_,y3,y4⟩:=RY.out
  dsimp only [cc] at y1
  dsimp only [dG] at y3
  obtain ⟨D,CQ,KQ⟩:=oB ⟨c.kind,c.no,c.cpu,x,c.b⟩ RY.out hgl (by omega) CY KY.out
  go_wp2
  change bodyPost _ _ _ _ _ (putC Y (w.heap.size+1) 0 (cc ⟨c.kind,c.no,c.cpu,x,c.b⟩).toList)
  generalize putC Y (w.heap.size+1) 0 (cc ⟨c.kind,c.no,c.cpu,x,c.b⟩).toList=Q at D CQ KQ ⊢
  exact bodyPost_ret (v:=ck ⟨c.kind,c.no,c.cpu,x,c.b⟩) (by simp [results,Tryz.results23,go_sem,D.cells]) rfl ⟨⟨c.kind,c.no,c.cpu,x,c.b⟩,rfl,CQ,KQ⟩
 by_cases h4:m=4
 ·subst h4
  go_upto_region 12 with (go_at_call 50;refine (iu (fun _=>True) g [-1,0,11,41] _ _ _ _ _ w1 rfl hc1 rfl (by decide) (by decide) rfl (fun _ _=>trivial)).mono ?_;rintro e w2 ⟨x,rfl,-,hc2,k2⟩;obtain ⟨_,z1,z2⟩:=B1.out.but k2 eS)
  change Code.wp _ _ _ _ (w2.setCell ⟨w.heap.size,4,none⟩ (.int .i64 x))
  have BY:Hid (aq (w2.setCell ⟨w.heap.size,4,none⟩ (.int .i64 x)) w.heap.size (cc ⟨c.kind,c.no,c.cpu,c.a,x⟩)):=(B1.out.but k2 eS).set 4 (by show 4 < 5;omega) _
  have RY:Hid (aq (w2.setCell ⟨w.heap.size,4,none⟩ (.int .i64 x)) (w.heap.size+1) dG):=(R1.out.but k2 hrb).far (by omega) _
  have CY:=hc2.aI (b:=w.heap.size) (by omega) 4 (.int .i64 x)
  have KY:Hid (ab g w (w2.setCell ⟨w.heap.size,4,none⟩ (.int .i64 x))):=(K1.out.trans k2).aI (p:=⟨w.heap.size,4,none⟩) (Nat.le_refl _) _
  clear z1 z2 B1 R1 K1 k2 hc2
  generalize (w2.setCell ⟨w.heap.size,4,none⟩ (.int .i64 x))=Y at *
  obtain ⟨_,y1,y2⟩:=BY.out
  obtain ⟨_,y3,y4⟩:=RY.out
  dsimp only [cc] at y1
  dsimp only [dG] at y3
  obtain ⟨D,CQ,KQ⟩:=oB ⟨c.kind,c.no,c.cpu,c.a,x⟩ RY.out hgl (by omega) CY KY.out
  go_wp2
  change bodyPost _ _ _ _ _ (putC Y (w.heap.size+1) 0 (cc ⟨c.kind,c.no,c.cpu,c.a,x⟩).toList)
  generalize putC Y (w.heap.size+1) 0 (cc ⟨c.kind,c.no,c.cpu,c.a,x⟩).toList=Q at D CQ KQ ⊢
  exact bodyPost_ret (v:=ck ⟨c.kind,c.no,c.cpu,c.a,x⟩) (by simp [results,Tryz.results23,go_sem,D.cells]) rfl ⟨⟨c.kind,c.no,c.cpu,c.a,x⟩,rfl,CQ,KQ⟩
 have e0:(m==0)=false:=by simp;omega
 have e1:(m==1)=false:=by simp;omega
 have e2:(m==2)=false:=by simp;omega
 have e3:(m==3)=false:=by simp;omega
 have e4:(m==4)=false:=by simp;omega
 go_upto_region 12 with fail
 have BY:=B1
 have RY:=R1
 have CY:=hc1
 have KY:=K1
 generalize w1=Y at *
 clear B1 R1 K1 hc1
 obtain ⟨_,y1,y2⟩:=BY.out
 obtain ⟨_,y3,y4⟩:=RY.out
 dsimp only [cc] at y1
 dsimp only [dG] at y3
 obtain ⟨D,CQ,KQ⟩:=oB c RY.out hgl (by omega) CY KY.out
 go_wp2
 change bodyPost _ _ _ _ _ (putC Y (w.heap.size+1) 0 (cc c).toList)
 generalize putC Y (w.heap.size+1) 0 (cc c).toList=Q at D CQ KQ ⊢
 exact bodyPost_ret (v:=ck c) (by simp [results,Tryz.results23,go_sem,D.cells]) rfl ⟨c,rfl,CQ,KQ⟩
section
attribute [local go_sem] aa.refl aa.alloc aa.drew aa.drewN
def rq (s:Sy) (n:Int) (w:World) (e:Ending) (w':World):Prop:=∃ v vs,e = .returned (.tuple #[.agg (ae s v),.int .i64 n]) /\ ay w' w.heap.size v vs s /\ aa w w'
set_option linter.unusedSimpArgs false in
set_option maxHeartbeats 8000000 in
theorem EC (v:Sv) (s s':Sy) (w:World) (h:aA w v s) (hr:aY s=true) (hg:dm w) (no cpu a b:Int) (hcb:ef ⟨6,no,cpu,a,b⟩=true) {er:Nat->Addr} (E:cQ w er) (n:Nat) (hn:n <= 6)
  (H:∀ W,cQ W er->aA W v s->Calls Tryz.prog 36 #[.agg (ae s v),ck ⟨6,no,cpu,a,b⟩] W (tN s s' er n W)) :
  Calls Tryz.prog 11 #[.agg (ae s v),ck ⟨6,no,cpu,a,b⟩] w (rq (if n=0 then s' else s) (n:Int) w):=by
 obtain ⟨s2,ry⟩:∃ x,Hid ((if n=0 then s' else s)=x):=⟨_,rfl⟩
 rw [ry.out]
 have kZ:aa w (((w.alloc (.cells (ae s v) 30)).alloc (.cells (cc ⟨6,no,cpu,a,b⟩) 32)).alloc (.cells dZ 30)):=(((aa.refl w).alloc _).alloc _).alloc _
 have B1:Hid (aq (((w.alloc (.cells (ae s v) 30)).alloc (.cells (cc ⟨6,no,cpu,a,b⟩) 32)).alloc (.cells dZ 30)) w.heap.size (ae s v)):=((aq.new _ _ _).alloc _).alloc _
 have B2:Hid (aq (((w.alloc (.cells (ae s v) 30)).alloc (.cells (cc ⟨6,no,cpu,a,b⟩) 32)).alloc (.cells dZ 30)) (w.heap.size+1) (cc ⟨6,no,cpu,a,b⟩)):=by
  have:=(aq.new (w.alloc (.cells (ae s v) 30)) (cc ⟨6,no,cpu,a,b⟩) 32).alloc (.cells dZ 30)
  show aq _ _ _
  simpa using this
 have B3:Hid (aq (((w.alloc (.cells (ae s v) 30)).alloc (.cells (cc ⟨6,no,cpu,a,b⟩) 32)).alloc (.cells dZ 30)) (w.heap.size+1+1) dZ):=by
  have:=aq.new ((w.alloc (.cells (ae s v) 30)).alloc (.cells (cc ⟨6,no,cpu,a,b⟩) 32)) dZ 30
  show aq _ _ _
  simpa using this
 have HS:Hid (aA (((w.alloc (.cells (ae s v) 30)).alloc (.cells (cc ⟨6,no,cpu,a,b⟩) 32)).alloc (.cells dZ 30)) v s):=h.keeps kZ
 have HE:Hid (cQ (((w.alloc (.cells (ae s v) 30)).alloc (.cells (cc ⟨6,no,cpu,a,b⟩) 32)).alloc (.cells dZ 30)) er):=E.keeps kZ
 have HG:Hid (dm (((w.alloc (.cells (ae s v) 30)).alloc (.cells (cc ⟨6,no,cpu,a,b⟩) 32)).alloc (.cells dZ 30))):=hg.keeps kZ
 have HH:Hid (∀ W,cQ W er->aA W v s->Calls Tryz.prog 36 #[.agg (ae s v),ck ⟨6,no,cpu,a,b⟩] W (tN s s' er n W)):=H
 have hws:w.heap.size+1+1 < (((w.alloc (.cells (ae s v) 30)).alloc (.cells (cc ⟨6,no,cpu,a,b⟩) 32)).alloc (.cells dZ 30)).heap.size:=by simp
 clear h hg E H
 go_enter Tryz.func11,Tryz.ntmps11
 go_upto_region 1 with fail
 change Code.wp _ _ _ _ (((w.alloc (.cells (ae s v) 30)).alloc (.cells (cc ⟨6,no,cpu,a,b⟩) 32)).alloc (.cells dZ 30))
 generalize (((w.alloc (.cells (ae s v) 30)).alloc (.cells (cc ⟨6,no,cpu,a,b⟩) 32)).alloc (.cells dZ 30))=Z at *
 obtain ⟨cb,p4⟩:∃ x,w.heap.size+1=x:=⟨_,rfl⟩
 rw [p4] at B2 B3 hws ⊢
 obtain ⟨rb,hrb⟩:∃ x,cb+1=x:=⟨_,rfl⟩
 rw [hrb] at B3 hws ⊢
 have i1:w.heap.size < cb:=by omega
 have i2:cb < rb:=by omega
 have i4:rb < Z.heap.size:=hws
 clear p4 hrb hws
 have e1:∀ w',aa Z w'->∀ q,w'.cell? ⟨w.heap.size,q,none⟩=(ae s v)[q]?:=fun w' k=>(B1.out.keeps k).cells
 have e2:∀ w',aa Z w'->∀ q,w'.cell? ⟨cb,q,none⟩=(cc ⟨6,no,cpu,a,b⟩)[q]?:=fun w' k=>(B2.out.keeps k).cells
 dsimp only [ae] at e1
 have cK:=fun w'=>Gm ⟨6,no,cpu,a,b⟩ w'
 rw [hcb] at cK
 go_upto_region 3 with first
  | (go_at_call 8;refine (xy _ v s HG.out HS.out).mono ?_;rintro e w1 ⟨rfl,k1⟩;rw [hr])
  | (go_at_call 35;refine (cK _).mono ?_;rintro e w2 ⟨rfl,k2⟩)
 have K2:aa Z w2:=k1.trans k2
 have f1:∀ w',aa w2 w'->∀ q,w'.cell? ⟨w.heap.size,q,none⟩=(ae s v)[q]?:=fun w' k=>(B1.out.keeps (K2.trans k)).cells
 have f2:∀ w',aa w2 w'->∀ q,w'.cell? ⟨cb,q,none⟩=(cc ⟨6,no,cpu,a,b⟩)[q]?:=fun w' k=>(B2.out.keeps (K2.trans k)).cells
 dsimp only [ae] at f1
 clear e1 e2 cK k1 k2
 have cM:=HH.out w2 (HE.out.keeps K2) (HS.out.keeps K2)
 go_upto_region 4 with (go_at_call 36;refine cM.mono ?_;rintro e w3 ⟨v3,vs3,rfl,o3,k3⟩)
 rw [ry.out] at o3 ⊢
 have kN:aa Z (w3.alloc (.cells (ae s2 v3) 30)):=(K2.trans k3).alloc _
 have N0:Hid (aq (w3.alloc (.cells (ae s2 v3) 30)) w3.heap.size (ae s2 v3)):=aq.new _ _ _
 have O0:Hid (ay (w3.alloc (.cells (ae s2 v3) 30)) w2.heap.size v3 vs3 s2):=o3.keeps ((aa.refl w3).alloc _)
 have R0:Hid (aq (w3.alloc (.cells (ae s2 v3) 30)) rb dZ):=B3.out.keeps kN
 have KN:Hid (aa w (w3.alloc (.cells (ae s2 v3) 30))):=kZ.trans kN
 have EN:Hid (cQ (w3.alloc (.cells (ae s2 v3) 30)) er):=HE.out.keeps kN
 have hz2:rb < w2.heap.size:=Nat.lt_of_lt_of_le i4 K2.size
 have hnb:rb < w3.heap.size:=Nat.lt_of_lt_of_le hz2 k3.size
 change Code.wp _ _ _ _ (w3.alloc (.cells (ae s2 v3) 30))
 clear cM f1 f2 k3 K2 o3 B1 B2 B3 HS HE HG HH kZ kN
 generalize (w3.alloc (.cells (ae s2 v3) 30))=X at *
 generalize w3.heap.size=nb at *
 have e0:∀ w',aq w' nb (ae s2 v3)->∀ q,w'.cell? ⟨nb,q,none⟩=(ae s2 v3)[q]?:=fun w' hh=>hh.cells
 dsimp only [ae] at e0
 refine wp_region_held_drew (S:=(fun w'=>aq w' nb (ae s2 v3))) (by kernel_rfl) ?_ (fun hHeld => ?_)
 ·exact N0.out.keeps (aa.refl X).drew
 refine ad.go [0,1] ?_
 iterate 2 (refine aM (h := ?_);try simp only [au])
 refine ad.nil ?_
 refine aR 2 (h:=fun K hK => ?_)
 go_simp
 (go_at_call 37;refine (Gn (EN.out.keeps (aa.refl X).drew) n hn).mono ?_;rintro e w5 ⟨rfl,yx⟩;have vv:=yx;subst vv;clear yx)
 try go_wp2_with fail
 refine hK.out _ _ ?_ fun hHeld => ?_
 ·exact N0.out.keeps (aa.refl X).drew
 clear hK K
 try simp only [au]
 refine aR 3 (h:=fun K hK => ?_)
 obtain ⟨_,r1,r2⟩:=R0.out;have hne1:nb≠rb:=(by omega);have hne2:rb≠nb:=(by omega)
 go_simp
 try go_wp2_with fail
 refine hK.out _ _ ?_ fun hHeld => ?_
 ·exact (aq.aT (c:=rb) (by omega) (ae s2 v3).toList 0 N0.out).keeps (aa.refl _).drew
 clear hK K
 try simp only [au]
 refine di 4 (h := ?_)
 try simp only [au]
 refine wpAnyH_done (by kernel_rfl) ?_ _
 have D:Hid (aq (putC X rb 0 (ae s2 v3).toList).drew rb (ae s2 v3)):=(R0.out.putC (ae s2 v3).toList rfl).keeps (aa.refl _).drew
 have KQ:Hid (aa w (putC X rb 0 (ae s2 v3).toList).drew):=(aa.putC (b:=rb) (by omega) _ 0 KN.out).drew
 have OQ:Hid (ay (putC X rb 0 (ae s2 v3).toList).drew w.heap.size v3 vs3 s2):=((ay.aT (c:=rb) (fun i hi=>by have:=(O0.out.aG hi).1;omega) _ _ O0.out).keeps (aa.refl _).drew).base (by omega)
 change Exit.then _ _ _ _ (putC X rb 0 (ae s2 v3).toList).drew
 clear e0 r1 r2 hHeld N0 O0 R0 KN EN
 generalize (putC X rb 0 (ae s2 v3).toList).drew=Q at *
 go_wp2
 have y1:=D.out.cells
 exact bodyPost_ret (v := .tuple #[.agg (ae s2 v3),.int .i64 (n:Int)]) (by simp [results,Tryz.results11,go_sem,y1]) rfl ⟨v3,vs3,rfl,OQ.out,KQ.out⟩
end
end Go.Proofs.YteagpjlgjfaclaaGreatDoor
