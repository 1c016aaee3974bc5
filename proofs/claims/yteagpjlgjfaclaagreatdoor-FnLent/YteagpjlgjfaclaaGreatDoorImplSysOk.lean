/-
  The program's invariants of a system, its first mistake, an
-/
import Derived.Test.YteagpjlgjfaclaaGreatDoorImplSysS
import Derived.Test.YteagpjlgjfaclaaGreatDoorLaidErrs
import Derived.Test.YteagpjlgjfaclaaGreatDoorDraw1
import Derived.Test.YteagpjlgjfaclaaGreatDoorSysNewS
import Derived.Test.YteagpjlgjfaclaaGreatDoorCallDo0
import Derived.Deep.RegionHeld3
import Derived.Laws.EntriesVeiled
namespace Go.Proofs.YteagpjlgjfaclaaGreatDoor
set_option maxRecDepth 100000
open Go.RowKit
attribute [local go_sem] aa.refl aa.alloc aa.drew aa.drewN
theorem Bn (s:Sy) (v:Sv) (c:Int) (w:World) :
  Calls Tryz.prog 106 #[.agg (ae s v),.int .i64 c] w fun e w'=>e = .returned (.bool (iO s c)) /\ aa w w':=by
 cases c1:decide (0 <= c)
 ·have Hr:Hid (iO s c=false):=by show _=_;unfold iO;rw [c1];rfl
  go_enter Tryz.func106,Tryz.ntmps106
  go_wp2
  go_ret
  exact ⟨by rw [Hr.out];rfl,(aa.refl _).alloc _⟩
 ·have Hr:Hid (iO s c=decide (c < s.az)):=by show _=_;unfold iO;rw [c1];rfl
  go_enter Tryz.func106,Tryz.ntmps106
  go_wp2
  go_ret
  exact ⟨by rw [Hr.out];rfl,(aa.refl _).alloc _⟩
theorem Ky (s:Sy) (v:Sv) (w:World) :
  Calls Tryz.prog 62 #[.agg (ae s v)] w fun e w'=>e = .returned (.bool (inv0 s)) /\ aa w w':=by
 have HE:Hid (inv0 s=(aF s.now 0 100000&&aF s.az 1 4)):=rfl
 have I1:=fR s.now 0 100000
 have I2:=fR s.az 1 4
 obtain ⟨p,hp⟩:∃ p,aF s.now 0 100000=p:=⟨_,rfl⟩
 obtain ⟨q,hq⟩:∃ q,aF s.az 1 4=q:=⟨_,rfl⟩
 rw [hp] at I1 HE
 rw [hq] at I2 HE
 clear hp hq
 cases p
 ·have Hr:Hid (inv0 s=false):=HE
  go_enter Tryz.func62,Tryz.ntmps62
  go_wp2_with (go_at_call 105;have i1:=I1;clear I1;refine (i1 _).mono ?_;rintro e w' ⟨rfl,hw'⟩;have hw2:=hw'.symm;subst hw2)
  go_ret
  exact ⟨by rw [Hr.out];rfl,(aa.refl _).alloc _⟩
 ·have Hr:Hid (inv0 s=q):=HE
  go_enter Tryz.func62,Tryz.ntmps62
  go_wp2_with (first
   | (go_at_call 105;have i1:=I1;clear I1;refine (i1 _).mono ?_;rintro e w' ⟨rfl,hw'⟩;have hw2:=hw'.symm;subst hw2)
   | (go_at_call 105;have i2:=I2;clear I2;refine (i2 _).mono ?_;rintro e w' ⟨rfl,hw'⟩;have hw2:=hw'.symm;subst hw2))
  go_ret
  exact ⟨by rw [Hr.out];rfl,(aa.refl _).alloc _⟩
theorem Kz {w:World} {v:Sv} {s:Sy} (h:aA w v s) :
  Calls Tryz.prog 68 #[.agg (ae s v)] w fun e w'=>e = .returned (.bool (gF s)) /\ aa w w':=by
 have hl:s.trace.length=v.r.n:=h.lay.rl
 have HE:Hid (gF s=(aF s.seq 0 1000000&&(aF s.missed 0 100000&&decide (v.r.n <= 400)))):=by show _=_;unfold gF;rw [hl]
 clear hl h
 have I1:=fR s.seq 0 1000000
 have I2:=fR s.missed 0 100000
 obtain ⟨p,hp⟩:∃ p,aF s.seq 0 1000000=p:=⟨_,rfl⟩
 obtain ⟨q,hq⟩:∃ q,aF s.missed 0 100000=q:=⟨_,rfl⟩
 rw [hp] at I1 HE
 rw [hq] at I2 HE
 clear hp hq
 cases p
 ·have Hr:Hid (gF s=false):=HE
  go_enter Tryz.func68,Tryz.ntmps68
  go_wp2_with (go_at_call 105;have i1:=I1;clear I1;refine (i1 _).mono ?_;rintro e w' ⟨rfl,hw'⟩;have hw2:=hw'.symm;subst hw2)
  go_ret
  exact ⟨by rw [Hr.out];rfl,(aa.refl _).alloc _⟩
 cases q
 ·have Hr:Hid (gF s=false):=HE
  go_enter Tryz.func68,Tryz.ntmps68
  go_wp2_with (first
   | (go_at_call 105;have i1:=I1;clear I1;refine (i1 _).mono ?_;rintro e w' ⟨rfl,hw'⟩;have hw2:=hw'.symm;subst hw2)
   | (go_at_call 105;have i2:=I2;clear I2;refine (i2 _).mono ?_;rintro e w' ⟨rfl,hw'⟩;have hw2:=hw'.symm;subst hw2))
  go_ret
  exact ⟨by rw [Hr.out];rfl,(aa.refl _).alloc _⟩
 ·have Hr:Hid (gF s=decide (v.r.n <= 400)):=HE
  have hd:decide ((v.r.n:Int) <= 400)=decide (v.r.n <= 400):=by rw [Bool.eq_iff_iff];simp only [decide_eq_true_eq];omega
  obtain ⟨z,hz⟩:∃ z,decide (v.r.n <= 400)=z:=⟨_,rfl⟩
  rw [hz] at hd Hr
  clear hz
  go_enter Tryz.func68,Tryz.ntmps68
  go_wp2_with (first
   | (go_at_call 105;have i1:=I1;clear I1;refine (i1 _).mono ?_;rintro e w' ⟨rfl,hw'⟩;have hw2:=hw'.symm;subst hw2)
   | (go_at_call 105;have i2:=I2;clear I2;refine (i2 _).mono ?_;rintro e w' ⟨rfl,hw'⟩;have hw2:=hw'.symm;subst hw2))
  go_ret
  exact ⟨by rw [Hr.out,<- hd];rfl,(aa.refl _).alloc _⟩
theorem tN {α:Type} (p:α->Bool) {xs:List α} {k:Nat} {x:α} (hx:xs[k]?=some x) (h:(xs.take k).all p=true) (hp:p x=true):(xs.take (k+1)).all p=true:=by
 rw [jT hx,List.all_append,h]
 simp [hp]
theorem nB {α:Type} (p:α->Bool) {xs:List α} {k:Nat} {x:α} (hx:xs[k]?=some x) (hp:p x=false):xs.all p=false:=by
 rw [<- Bool.not_eq_true,List.all_eq_true]
 intro h
 have:=h x (List.mem_iff_getElem?.2 ⟨k,hx⟩)
 rw [hp] at this
 cases this
set_option maxHeartbeats 2000000 in
theorem KA {w:World} {v:Sv} {s:Sy} (h:aA w v s) :
  Calls Tryz.prog 63 #[.agg (ae s v)] w fun e w'=>e = .returned (.bool (inv1 s)) /\ aa w w':=by
 obtain ⟨⟨ta,tn,ak⟩,vl,vg,vf,vr⟩:=v
 have hm1:tn <= 2000000:=by have h1:=h.size;have h2:s.tasks.length=tn:=h.lay.tl;unfold bV at h1;omega
 have Hn:Hid (s.tasks.length=tn):=h.lay.tl
 have kW:=cZ w (.cells (ae s ⟨⟨ta,tn,ak⟩,vl,vg,vf,vr⟩) 30)
 have hb:=dE w (ae s ⟨⟨ta,tn,ak⟩,vl,vg,vf,vr⟩) 30
 have HS:Hid (aA (w.alloc (.cells (ae s ⟨⟨ta,tn,ak⟩,vl,vg,vf,vr⟩) 30)) ⟨⟨ta,tn,ak⟩,vl,vg,vf,vr⟩ s):=h.keeps kW
 have hT:Hid (fk (w.alloc (.cells (ae s ⟨⟨ta,tn,ak⟩,vl,vg,vf,vr⟩) 30)) ta tn ak s.tasks):=HS.out.gM
 have HC:Hid (∀ (c:Int) (w':World),Calls Tryz.prog 106 #[.agg (ae s ⟨⟨ta,tn,ak⟩,vl,vg,vf,vr⟩),.int .i64 c] w' fun e w''=>e = .returned (.bool (iO s c)) /\ aa w' w''):=fun c w'=>Bn s _ c w'
 have HO:Hid (∀ w',aa (w.alloc (.cells (ae s ⟨⟨ta,tn,ak⟩,vl,vg,vf,vr⟩) 30)) w'->Calls Tryz.prog 33 #[.slice ta tn ak] w' fun e w''=>e = .returned (.bool (di s.tasks)) /\ aa w' w''):=fun w' k=>by
  have:=Bj ta ak s.tasks w' hT.out.small (hT.out.keeps k).lies
  rw [hT.out.len] at this
  exact this
 have HE:Hid (inv1 s=(s.tasks.all (fun t=>iO s t.cpu)&&di s.tasks)):=rfl
 clear h HS
 go_enter Tryz.func63,Tryz.ntmps63
 go_wp2
 generalize w.alloc (.cells (ae s ⟨⟨ta,tn,ak⟩,vl,vg,vf,vr⟩) 30)=W at *
 go_loopw [8] (fun i wr=>∃ k:Nat,k <= tn /\ i = .int .i64 k /\ Hid ((s.tasks.take k).all (fun t=>iO s t.cpu)=true) /\ aa W wr) (fun i _=>tn - (intOf i).toNat)
 case atStart=>exact ⟨0,Nat.zero_le _,rfl,by show _=_;simp,aa.refl _⟩
 case round =>
  obtain ⟨k,hk,rfl,HA,hK⟩:=hrel
  by_cases hlt:k < tn
  ·obtain ⟨t,ht⟩:=bW (xs:=s.tasks) (k:=k) (by rw [Hn.out];exact hlt)
   obtain ⟨b,off,rfl,r0,r1⟩:=hT.out.lies.at ht (by omega)
   have hlt':(k:Int) < (tn:Int):=by omega
   have Ht:Hid (s.tasks[k]?=some t):=ht
   have Hc:Hid (∀ w':World,Calls Tryz.prog 106 #[.agg (ae s ⟨⟨some ⟨b,off,none⟩,tn,ak⟩,vl,vg,vf,vr⟩),.int .i64 t.cpu] w' fun e w''=>e = .returned (.bool (iO s t.cpu)) /\ aa w' w''):=fun w'=>HC.out t.cpu w'
   clear ht HC hT
   cases q:iO s t.cpu
   ·have Hr:Hid (inv1 s=false):=by show _=_;rw [HE.out,nB _ Ht.out q];rfl
    rw [q] at Hc
    clear HO
    go_wp2_with (go_at_call 106;refine (Hc.out _).mono ?_;rintro e w1 ⟨rfl,k1⟩;have K1:=(hK.alloc (.cells (tc t) 43)).trans k1)
    go_ret
    exact ⟨by rw [Hr.out];rfl,kW.trans K1⟩
   ·rw [q] at Hc
    clear HO
    go_wp2_with (go_at_call 106;refine (Hc.out _).mono ?_;rintro e w1 ⟨rfl,k1⟩;have K1:=(hK.alloc (.cells (tc t) 43)).trans k1)
    exact ⟨⟨k+1,by omega,by go_num,tN _ Ht.out HA.out q,K1⟩,by simp only [intOf];omega⟩
  ·have hlt':decide ((k:Int) < (tn:Int))=false:=by simp;omega
   have Hr:Hid (inv1 s=di s.tasks):=by
    have h1:=HA.out
    rw [List.take_of_length_le (by have:=Hn.out;omega)] at h1
    show _=_
    rw [HE.out,h1];rfl
   obtain ⟨z,Hz⟩:∃ z,Hid (di s.tasks=z):=⟨_,rfl⟩
   rw [Hz.out] at HO Hr
   clear hT HC HA
   go_wp2_with (go_at_call 33;refine (HO.out _ hK).mono ?_;rintro e w1 ⟨rfl,k1⟩)
   go_ret
   exact ⟨by rw [Hr.out];rfl,kW.trans (hK.trans k1)⟩
set_option maxHeartbeats 2000000 in
theorem KF {w:World} {v:Sv} {s:Sy} (h:aA w v s) {i:Nat} {l:Lk} (hl:s.af[i]?=some l) :
  Calls Tryz.prog 107 #[.agg (ae s v),.int .i64 (i:Int)] w fun e w'=>e = .returned (.bool (jB s i l)) /\ aa w w':=by
 obtain ⟨vt,⟨la,ln,aj⟩,vg,vf,vr⟩:=v
 have hm2:ln <= 2000000:=by have h1:=h.size;have h2:s.af.length=ln:=h.lay.ll;have h3:=nr s.af;unfold bV at h1;omega
 have hw0:l.waits.length <= 2000000:=by
  have h1:=lM hl
  have h2:=h.size
  unfold bV bT at h2
  omega
 have hL0:On w la ln aj s.af:=h.gL
 obtain ⟨hkn,b,off,a',cap',rfl,-,-,-,-⟩:=hL0.at hl
 clear hL0
 have kW:=cZ w (.cells (ae s ⟨vt,⟨some ⟨b,off,none⟩,ln,aj⟩,vg,vf,vr⟩) 30)
 have hb:=dE w (ae s ⟨vt,⟨some ⟨b,off,none⟩,ln,aj⟩,vg,vf,vr⟩) 30
 have HS:Hid (aA (w.alloc (.cells (ae s ⟨vt,⟨some ⟨b,off,none⟩,ln,aj⟩,vg,vf,vr⟩) 30)) ⟨vt,⟨some ⟨b,off,none⟩,ln,aj⟩,vg,vf,vr⟩ s):=h.keeps kW
 have hL:On (w.alloc (.cells (ae s ⟨vt,⟨some ⟨b,off,none⟩,ln,aj⟩,vg,vf,vr⟩) 30)) (some ⟨b,off,none⟩) ln aj s.af:=HS.out.gL
 clear a' cap'
 obtain ⟨-,b',off',a',cap',ha,r0,r1,hle,hns⟩:=hL.at hl
 simp only [Option.some.injEq,Addr.mk.injEq] at ha
 obtain ⟨rfl,rfl,-⟩:=ha
 have hki:(i:Int) < (ln:Int):=by omega
 have HC:Hid (∀ (x:Int) (w':World),aa (w.alloc (.cells (ae s ⟨vt,⟨some ⟨b,off,none⟩,ln,aj⟩,vg,vf,vr⟩) 30)) w'->Calls Tryz.prog 156 #[.agg (ae s ⟨vt,⟨some ⟨b,off,none⟩,ln,aj⟩,vg,vf,vr⟩),.int .i64 (i:Int),.int .i64 x] w' fun e w''=>e = .returned (.bool (eS s i x)) /\ aa w' w''):=fun x w' k=>KG w' _ s i x (HS.out.keeps k)
 have HE:Hid (jB s i l=(l.waits.all (fun x=>eS s i x)&&(l.owner==0||eS s i l.owner))):=rfl
 obtain ⟨m,Hm⟩:∃ m:Nat,Hid (l.waits.length=m):=⟨_,rfl⟩
 rw [Hm.out] at r1 hw0
 have Bo:Hid (Ns (w.alloc (.cells (ae s ⟨vt,⟨some ⟨b,off,none⟩,ln,aj⟩,vg,vf,vr⟩) 30)) a' l.waits):=hns
 clear h HS hL hl hns hle
 go_enter Tryz.func107,Tryz.ntmps107
 go_wp2
 generalize w.alloc (.cells (ae s ⟨vt,⟨some ⟨b,off,none⟩,ln,aj⟩,vg,vf,vr⟩) 30)=W at *
 go_loopw [15] (fun j wr=>∃ k:Nat,k <= m /\ j = .int .i64 k /\ Hid ((l.waits.take k).all (fun x=>eS s i x)=true) /\ aa W wr) (fun j _=>m - (intOf j).toNat)
 case atStart=>exact ⟨0,Nat.zero_le _,rfl,by show _=_;simp,aa.refl _⟩
 case round =>
  obtain ⟨k,hk,rfl,HA,hK⟩:=hrel
  by_cases hlt:k < m
  ·obtain ⟨x,hx⟩:=bW (xs:=l.waits) (k:=k) (by rw [Hm.out];exact hlt)
   obtain ⟨b2,jN,rfl,x0⟩:=Bo.out.at hx
   have hlt':(k:Int) < (m:Int):=by omega
   have Hx:Hid (l.waits[k]?=some x):=hx
   have Hc:Hid (∀ w',aa W w'->Calls Tryz.prog 156 #[.agg (ae s ⟨vt,⟨some ⟨b,off,none⟩,ln,aj⟩,vg,vf,vr⟩),.int .i64 (i:Int),.int .i64 x] w' fun e w''=>e = .returned (.bool (eS s i x)) /\ aa w' w''):=fun w' k=>HC.out x w' k
   clear hx HC Bo
   cases q:eS s i x
   ·have Hr:Hid (jB s i l=false):=by show _=_;rw [HE.out,nB _ Hx.out q];rfl
    rw [q] at Hc
    go_wp2_with (go_at_call 156;refine (Hc.out _ hK).mono ?_;rintro e w1 ⟨rfl,k1⟩)
    go_ret
    exact ⟨by rw [Hr.out];rfl,kW.trans (hK.trans k1)⟩
   ·rw [q] at Hc
    go_wp2_with (go_at_call 156;refine (Hc.out _ hK).mono ?_;rintro e w1 ⟨rfl,k1⟩)
    exact ⟨⟨k+1,by omega,by go_num,tN _ Hx.out HA.out q,hK.trans k1⟩,by simp only [intOf];omega⟩
  ·have hlt':decide ((k:Int) < (m:Int))=false:=by simp;omega
   have Hr:Hid (jB s i l=(l.owner==0||eS s i l.owner)):=by
    have h1:=HA.out
    rw [List.take_of_length_le (by have:=Hm.out;omega)] at h1
    show _=_
    rw [HE.out,h1];rfl
   have Hc:Hid (∀ w',aa W w'->Calls Tryz.prog 156 #[.agg (ae s ⟨vt,⟨some ⟨b,off,none⟩,ln,aj⟩,vg,vf,vr⟩),.int .i64 (i:Int),.int .i64 l.owner] w' fun e w''=>e = .returned (.bool (eS s i l.owner)) /\ aa w' w''):=fun w' k=>HC.out l.owner w' k
   clear HC HA HE
   cases q:(l.owner==0)
   ·rw [q] at Hr
    obtain ⟨z,Hz⟩:∃ z,Hid (eS s i l.owner=z):=⟨_,rfl⟩
    rw [Hz.out] at Hc Hr
    go_wp2_with (go_at_call 156;refine (Hc.out _ hK).mono ?_;rintro e w1 ⟨rfl,k1⟩)
    go_ret
    exact ⟨by rw [Hr.out];rfl,kW.trans (hK.trans k1)⟩
   ·rw [q] at Hr
    go_wp2
    go_ret
    exact ⟨by rw [Hr.out];rfl,kW.trans hK⟩
set_option maxHeartbeats 2000000 in
theorem KI {w:World} {v:Sv} {s:Sy} (h:aA w v s) :
  Calls Tryz.prog 64 #[.agg (ae s v)] w fun e w'=>e = .returned (.bool (inv2 s)) /\ aa w w':=by
 have hm2:v.l.n <= 2000000:=by have h1:=h.size;have h2:=h.lay.ll;have h3:=nr s.af;unfold bV at h1;omega
 have Hn:Hid (s.af.length=v.l.n):=h.lay.ll
 have kW:=cZ w (.cells (ae s v) 30)
 have hb:=dE w (ae s v) 30
 have HS:Hid (aA (w.alloc (.cells (ae s v) 30)) v s):=h.keeps kW
 have HO:Hid (∀ w',aa (w.alloc (.cells (ae s v) 30)) w'->Calls Tryz.prog 75 #[.slice v.l.a v.l.n v.l.cap] w' fun e w''=>e = .returned (.bool (dm s.af)) /\ aa w' w''):=fun w' k=>by
  have h1:=HS.out.gL.keeps k
  have:=vH v.l.a v.l.cap s.af w' (by have:=h1.size;omega) h1.gP
  rw [h1.len] at this
  exact this
 have HC:Hid (∀ (i:Nat) (l:Lk),s.af[i]?=some l->∀ w',aa (w.alloc (.cells (ae s v) 30)) w'->Calls Tryz.prog 107 #[.agg (ae s v),.int .i64 (i:Int)] w' fun e w''=>e = .returned (.bool (jB s i l)) /\ aa w' w''):=fun i l hl w' k=>KF (HS.out.keeps k) hl
 have HE:Hid (inv2 s=((v.l.n==5)&&(dm s.af&&(List.range v.l.n).all (fun i=>jB s i (s.af.getD i ⟨0,[]⟩))))):=by show _=_;unfold inv2;rw [h.lay.ll]
 clear h HS
 by_cases h5:v.l.n=5
 rotate_left
 ·have hd:decide ((v.l.n:Int)=5)=false:=by simp;omega
  have hd2:((v.l.n:Int)==5)=false:=by simp;omega
  have hd3:((v.l.n:Int) != 5)=true:=by simp;omega
  have Hr:Hid (inv2 s=false):=by show _=_;rw [HE.out,show (v.l.n==5)=false from by simpa using h5];rfl
  clear h5
  go_enter Tryz.func64,Tryz.ntmps64
  go_wp2
  go_ret
  exact ⟨by rw [Hr.out];rfl,kW⟩
 have hd2:((v.l.n:Int)==5)=true:=by simp;omega
 have hd3:((v.l.n:Int) != 5)=false:=by simp;omega
 have HE2:Hid (inv2 s=(dm s.af&&(List.range v.l.n).all (fun i=>jB s i (s.af.getD i ⟨0,[]⟩)))):=by show _=_;rw [HE.out,show (v.l.n==5)=true from by simpa using h5];rfl
 have H5:Hid (v.l.n=5):=h5
 clear HE h5
 cases q:dm s.af
 ·rw [q] at HO HE2
  have Hr:Hid (inv2 s=false):=HE2
  go_enter Tryz.func64,Tryz.ntmps64
  go_wp2_with fail
  generalize w.alloc (.cells (ae s v) 30)=W at *
  go_wp2_with (go_at_call 75;refine (HO.out _ (aa.refl _)).mono ?_;rintro e w1 ⟨rfl,k1⟩)
  go_ret
  exact ⟨by rw [Hr.out];rfl,kW.trans k1⟩
 rw [q] at HO HE2
 go_enter Tryz.func64,Tryz.ntmps64
 go_wp2_with fail
 generalize w.alloc (.cells (ae s v) 30)=W at *
 go_wp2_with (go_at_call 75;refine (HO.out _ (aa.refl _)).mono ?_;rintro e w1 ⟨rfl,k1⟩)
 clear HO
 go_loopw [17] (fun j wr=>∃ k:Nat,k <= v.l.n /\ j = .int .i64 k /\ Hid ((List.range k).all (fun i=>jB s i (s.af.getD i ⟨0,[]⟩))=true) /\ aa W wr) (fun j _=>v.l.n - (intOf j).toNat)
 case atStart=>exact ⟨0,Nat.zero_le _,rfl,by show _=_;simp,k1⟩
 case round =>
  obtain ⟨k,hk,rfl,HA,hK⟩:=hrel
  by_cases hlt:k < v.l.n
  ·obtain ⟨l,hl⟩:=bW (xs:=s.af) (k:=k) (by rw [Hn.out];exact hlt)
   have hlt':(k:Int) < (v.l.n:Int):=by omega
   have Hc:Hid (∀ w',aa W w'->Calls Tryz.prog 107 #[.agg (ae s v),.int .i64 (k:Int)] w' fun e w''=>e = .returned (.bool (jB s k l)) /\ aa w' w''):=fun w' h=>HC.out k l hl w' h
   have Hl:Hid (s.af.getD k ⟨0,[]⟩=l):=mN hl
   clear hl HC
   cases q2:jB s k l
   ·have Hr:Hid (inv2 s=false):=by
     show _=_
     rw [HE2.out,nB _ (k:=k) (x:=k) (by simp [hlt]) (by rw [Hl.out];exact q2)]
     rfl
    rw [q2] at Hc
    go_wp2_with (go_at_call 107;refine (Hc.out _ hK).mono ?_;rintro e w2 ⟨rfl,k2⟩)
    go_ret
    exact ⟨by rw [Hr.out];rfl,kW.trans (hK.trans k2)⟩
   ·have HA2:Hid ((List.range (k+1)).all (fun i=>jB s i (s.af.getD i ⟨0,[]⟩))=true):=by
     show _=_
     rw [List.range_succ,List.all_append,HA.out]
     simp only [List.all_cons,List.all_nil,Bool.and_true,Bool.true_and]
     rw [Hl.out];exact q2
    rw [q2] at Hc
    go_wp2_with (go_at_call 107;refine (Hc.out _ hK).mono ?_;rintro e w2 ⟨rfl,k2⟩)
    exact ⟨⟨k+1,by omega,by go_num,HA2,hK.trans k2⟩,by simp only [intOf];omega⟩
  ·have hlt':decide ((k:Int) < (v.l.n:Int))=false:=by simp;omega
   have Hr:Hid (inv2 s=true):=by
    show _=_
    rw [HE2.out,show v.l.n=k from by omega,HA.out];rfl
   go_wp2
   go_ret
   exact ⟨by rw [Hr.out];rfl,kW.trans hK⟩
set_option maxHeartbeats 2000000 in
theorem KJ {w:World} {v:Sv} {s:Sy} (h:aA w v s) :
  Calls Tryz.prog 65 #[.agg (ae s v)] w fun e w'=>e = .returned (.bool (fT s)) /\ aa w w':=by
 obtain ⟨vt,vl,⟨ga,gn,ao⟩,vf,vr⟩:=v
 have hm1:gn <= 2000000:=by have h1:=h.size;have h2:s.ah.length=gn:=h.lay.gl;unfold bV at h1;omega
 have Hn:Hid (s.ah.length=gn):=h.lay.gl
 have kW:=cZ w (.cells (ae s ⟨vt,vl,⟨ga,gn,ao⟩,vf,vr⟩) 30)
 have hb:=dE w (ae s ⟨vt,vl,⟨ga,gn,ao⟩,vf,vr⟩) 30
 have HS:Hid (aA (w.alloc (.cells (ae s ⟨vt,vl,⟨ga,gn,ao⟩,vf,vr⟩) 30)) ⟨vt,vl,⟨ga,gn,ao⟩,vf,vr⟩ s):=h.keeps kW
 have hG:Hid (Gs (w.alloc (.cells (ae s ⟨vt,vl,⟨ga,gn,ao⟩,vf,vr⟩) 30)) ga s.ah):=HS.out.lay.g
 have HE:Hid (fT s=(s.ah.all (nC s)&&decide (gn <= 12))):=by show _=_;unfold fT;rw [Hn.out]
 clear h HS
 go_enter Tryz.func65,Tryz.ntmps65
 go_wp2
 generalize w.alloc (.cells (ae s ⟨vt,vl,⟨ga,gn,ao⟩,vf,vr⟩) 30)=W at *
 go_loopw [8] (fun i wr=>∃ k:Nat,k <= gn /\ i = .int .i64 k /\ Hid ((s.ah.take k).all (nC s)=true) /\ aa W wr) (fun i _=>gn - (intOf i).toNat)
 case atStart=>exact ⟨0,Nat.zero_le _,rfl,by show _=_;simp,aa.refl _⟩
 case round =>
  obtain ⟨k,hk,rfl,HA,hK⟩:=hrel
  by_cases hlt:k < gn
  ·obtain ⟨g,hg⟩:=bW (xs:=s.ah) (k:=k) (by rw [Hn.out];exact hlt)
   obtain ⟨b,off,rfl,r0,r1⟩:=hG.out.at hg (by omega)
   have hlt':(k:Int) < (gn:Int):=by omega
   have Hg:Hid (s.ah[k]?=some g):=hg
   have HB:Hid (nC s g=(iO s g.cpu&&(okB g.q g.p&&aF g.fU 0 100040))):=rfl
   have C1:Hid (∀ w':World,Calls Tryz.prog 106 #[.agg (ae s ⟨vt,vl,⟨some ⟨b,off,none⟩,gn,ao⟩,vf,vr⟩),.int .i64 g.cpu] w' fun e w''=>e = .returned (.bool (iO s g.cpu)) /\ aa w' w''):=fun w'=>Bn s _ g.cpu w'
   have C2:Hid (∀ w':World,Calls Tryz.prog 94 #[sh g.q g.p] w' fun e w''=>e = .returned (.bool (okB g.q g.p)) /\ aa w' w''):=fun w'=>(pT g.q g.p w').mono fun e w'' ⟨h1,h2⟩=>⟨h1,by rw [h2];exact (aa.refl w').alloc _⟩
   have C3:Hid (∀ w':World,Calls Tryz.prog 105 #[.int .i64 g.fU,.int .i64 0,.int .i64 100040] w' fun e w''=>e = .returned (.bool (aF g.fU 0 100040)) /\ aa w' w''):=fun w'=>(fR g.fU 0 100040 w').mono fun e w'' ⟨h1,h2⟩=>⟨h1,by rw [h2];exact aa.refl w'⟩
   clear hg hG
   cases q1:iO s g.cpu
   ·have Hr:Hid (fT s=false):=by show _=_;rw [HE.out,nB _ Hg.out (by rw [HB.out,q1];rfl)];rfl
    rw [q1] at C1
    go_wp2_with (go_at_call 106;refine (C1.out _).mono ?_;rintro e w1 ⟨rfl,k1⟩;have K1:=(hK.alloc (.cells (dM g) 87)).trans k1;have bx1:=((ai.new wr (dM g) 87).keeps k1).cells;clear k1)
    go_ret
    exact ⟨by rw [Hr.out];rfl,kW.trans K1⟩
   rw [q1] at C1
   have BX:∀ w1:World,aa (wr.alloc (.cells (dM g) 87)) w1->∀ w',aa w1 w'->∀ j,w'.cell? ⟨wr.heap.size,j,none⟩=(dM g)[j]?:=fun w1 h1 w' h2=>((ai.new wr (dM g) 87).keeps (h1.trans h2)).cells
   cases q2:okB g.q g.p
   ·have Hr:Hid (fT s=false):=by show _=_;rw [HE.out,nB _ Hg.out (by rw [HB.out,q1,q2];rfl)];rfl
    rw [q2] at C2
    go_wp2_with (first
     | (go_at_call 106;refine (C1.out _).mono ?_;rintro e w1 ⟨rfl,k1⟩;have K1:=(hK.alloc (.cells (dM g) 87)).trans k1;have bx1:=BX w1 k1;clear k1)
     | (go_at_call 94;refine (C2.out _).mono ?_;rintro e w2 ⟨rfl,k2⟩;have K2:=K1.trans k2))
    go_ret
    exact ⟨by rw [Hr.out];rfl,kW.trans K2⟩
   rw [q2] at C2
   cases q3:aF g.fU 0 100040
   ·have Hr:Hid (fT s=false):=by show _=_;rw [HE.out,nB _ Hg.out (by rw [HB.out,q1,q2,q3];rfl)];rfl
    rw [q3] at C3
    go_wp2_with (first
     | (go_at_call 106;refine (C1.out _).mono ?_;rintro e w1 ⟨rfl,k1⟩;have K1:=(hK.alloc (.cells (dM g) 87)).trans k1;have bx1:=BX w1 k1;clear k1)
     | (go_at_call 94;refine (C2.out _).mono ?_;rintro e w2 ⟨rfl,k2⟩;have K2:=K1.trans k2)
     | (go_at_call 105;refine (C3.out _).mono ?_;rintro e w3 ⟨rfl,k3⟩;have K3:=K2.trans k3))
    go_ret
    exact ⟨by rw [Hr.out];rfl,kW.trans K3⟩
   ·have q4:nC s g=true:=by rw [HB.out,q1,q2,q3];rfl
    have HA2:Hid ((s.ah.take (k+1)).all (nC s)=true):=tN _ Hg.out HA.out q4
    rw [q3] at C3
    clear q4
    go_wp2_with (first
     | (go_at_call 106;refine (C1.out _).mono ?_;rintro e w1 ⟨rfl,k1⟩;have K1:=(hK.alloc (.cells (dM g) 87)).trans k1;have bx1:=BX w1 k1;clear k1)
     | (go_at_call 94;refine (C2.out _).mono ?_;rintro e w2 ⟨rfl,k2⟩;have K2:=K1.trans k2)
     | (go_at_call 105;refine (C3.out _).mono ?_;rintro e w3 ⟨rfl,k3⟩;have K3:=K2.trans k3))
    exact ⟨⟨k+1,by omega,by go_num,HA2,K3⟩,by simp only [intOf];omega⟩
  ·have hlt':decide ((k:Int) < (gn:Int))=false:=by simp;omega
   have hd:decide ((gn:Int) <= 12)=decide (gn <= 12):=by rw [Bool.eq_iff_iff];simp only [decide_eq_true_eq];omega
   have Hr:Hid (fT s=decide (gn <= 12)):=by
    have h1:=HA.out
    rw [List.take_of_length_le (by have:=Hn.out;omega)] at h1
    show _=_
    rw [HE.out,h1];rfl
   obtain ⟨z,hz⟩:∃ z,decide (gn <= 12)=z:=⟨_,rfl⟩
   rw [hz] at hd Hr
   clear hz HE HA hG
   go_wp2
   go_ret
   exact ⟨by rw [Hr.out,<- hd];rfl,kW.trans hK⟩
theorem Bp {w:World} {base:Nat} {u:Value} {xs:List (Int × Int)} (h:eb w base u xs):Calls Tryz.prog 19 #[u] w fun e w'=>e = .returned (.bool (jY xs)) /\ aa w w':=by
 obtain ⟨a,cap,rfl,l,h1,h2⟩:=h.slice kl
 exact KL a cap xs w (by omega) (Bq l)
set_option maxHeartbeats 2000000 in
theorem KM {w:World} {v:Sv} {s:Sy} (h:aA w v s) (hc:inv0 s=true) :
  Calls Tryz.prog 66 #[.agg (ae s v)] w fun e w'=>e = .returned (.bool (gU s)) /\ aa w w':=by
 obtain ⟨c,hcc,hc4⟩:∃ c:Nat,s.az=(c:Int) /\ c <= 4:=by
  unfold inv0 at hc
  simp only [Bool.and_eq_true,dq] at hc
  exact ⟨s.az.toNat,by omega,by omega⟩
 have pN:Hid (s.az=(c:Int)):=hcc
 clear hcc
 have kW:=cZ w (.cells (ae s v) 30)
 have hb:=dE w (ae s v) 30
 have HS:Hid (aA (w.alloc (.cells (ae s v) 30)) v s):=h.keeps kW
 have HC:Hid (∀ (x:Int) w',aa (w.alloc (.cells (ae s v) 30)) w'->Calls Tryz.prog 16 #[.agg (ae s v),.int .i64 x] w' fun e w''=>∃ u,e = .returned u /\ eb w'' w'.heap.size u (fe s x) /\ aa w' w''):=fun x w' k=>KO w' v s x (HS.out.keeps k)
 have HE:Hid (gU s=(List.range c).all (fun c=>jY (fe s (c:Int)))):=by show _=_;unfold gU;rw [pN.out,Int.toNat_natCast]
 clear h HS hc
 go_enter Tryz.func66,Tryz.ntmps66
 go_wp2
 generalize w.alloc (.cells (ae s v) 30)=W at *
 go_loopw [6] (fun i wr=>∃ k:Nat,k <= c /\ i = .int .i64 k /\ Hid ((List.range k).all (fun c=>jY (fe s (c:Int)))=true) /\ aa W wr) (fun i _=>c - (intOf i).toNat)
 case atStart=>exact ⟨0,Nat.zero_le _,rfl,by show _=_;simp,aa.refl _⟩
 case round =>
  obtain ⟨k,hk,rfl,HA,hK⟩:=hrel
  by_cases hlt:k < c
  ·have hlt':(k:Int) < (c:Int):=by omega
   have KP:decide ((k:Int) < s.az)=true:=by have:=pN.out;simp;omega
   have SH:Hid (∀ w',aa W w'->Calls Tryz.prog 16 #[.agg (ae s v),.int .i64 (k:Int)] w' fun e w''=>∃ u,e = .returned u /\ eb w'' w'.heap.size u (fe s k) /\ aa w' w''):=fun w' h=>HC.out k w' h
   clear HC
   cases q:jY (fe s k)
   ·have Hr:Hid (gU s=false):=by
     show _=_
     rw [HE.out,nB _ (k:=k) (x:=k) (by simp [hlt]) q]
    go_wp2_with (first
     | (go_at_call 16;refine (SH.out _ hK).mono ?_;rintro e w1 ⟨u,rfl,ou,k1⟩;have OU:Hid (eb w1 wr.heap.size u (fe s k)):=ou;clear ou)
     | (go_at_call 19;refine (Bp OU.out).mono ?_;rintro e w2 ⟨rfl,k2⟩;rw [q]))
    go_ret
    exact ⟨by rw [Hr.out];rfl,kW.trans (hK.trans (k1.trans k2))⟩
   ·have HA2:Hid ((List.range (k+1)).all (fun c=>jY (fe s (c:Int)))=true):=by
     show _=_
     rw [List.range_succ,List.all_append,HA.out]
     simp only [List.all_cons,List.all_nil,Bool.and_true,Bool.true_and]
     exact q
    go_wp2_with (first
     | (go_at_call 16;refine (SH.out _ hK).mono ?_;rintro e w1 ⟨u,rfl,ou,k1⟩;have OU:Hid (eb w1 wr.heap.size u (fe s k)):=ou;clear ou)
     | (go_at_call 19;refine (Bp OU.out).mono ?_;rintro e w2 ⟨rfl,k2⟩;rw [q]))
    exact ⟨⟨k+1,by omega,by go_num,HA2,hK.trans (k1.trans k2)⟩,by simp only [intOf];omega⟩
  ·have hlt':decide ((k:Int) < s.az)=false:=by have:=pN.out;simp;omega
   have Hr:Hid (gU s=true):=by
    show _=_
    rw [HE.out,show c=k from by omega,HA.out]
   go_wp2
   go_ret
   exact ⟨by rw [Hr.out];rfl,kW.trans hK⟩
set_option maxHeartbeats 2000000 in
theorem KR {w:World} {v:Sv} {s:Sy} (h:aA w v s) :
  Calls Tryz.prog 67 #[.agg (ae s v)] w fun e w'=>e = .returned (.bool (gV s)) /\ aa w w':=by
 obtain ⟨vt,vl,vg,⟨fa,fn,aq⟩,vr⟩:=v
 have hm1:fn <= 2000000:=by have h1:=h.size;have h2:s.ax.length=fn:=h.lay.fl;unfold bV at h1;omega
 have Hn:Hid (s.ax.length=fn):=h.lay.fl
 have kW:=cZ w (.cells (ae s ⟨vt,vl,vg,⟨fa,fn,aq⟩,vr⟩) 30)
 have hb:=dE w (ae s ⟨vt,vl,vg,⟨fa,fn,aq⟩,vr⟩) 30
 have HS:Hid (aA (w.alloc (.cells (ae s ⟨vt,vl,vg,⟨fa,fn,aq⟩,vr⟩) 30)) ⟨vt,vl,vg,⟨fa,fn,aq⟩,vr⟩ s):=h.keeps kW
 have hF:Hid (Ns (w.alloc (.cells (ae s ⟨vt,vl,vg,⟨fa,fn,aq⟩,vr⟩) 30)) fa s.ax):=HS.out.lay.f
 have HE:Hid (gV s=(s.ax.all (fun f=>aF f 0 100000000)&&((fn:Int)==s.az))):=by show _=_;unfold gV;rw [Hn.out]
 clear h HS
 go_enter Tryz.func67,Tryz.ntmps67
 go_wp2
 generalize w.alloc (.cells (ae s ⟨vt,vl,vg,⟨fa,fn,aq⟩,vr⟩) 30)=W at *
 go_loopw [8] (fun i wr=>∃ k:Nat,k <= fn /\ i = .int .i64 k /\ Hid ((s.ax.take k).all (fun f=>aF f 0 100000000)=true) /\ aa W wr) (fun i _=>fn - (intOf i).toNat)
 case atStart=>exact ⟨0,Nat.zero_le _,rfl,by show _=_;simp,aa.refl _⟩
 case round =>
  obtain ⟨k,hk,rfl,HA,hK⟩:=hrel
  by_cases hlt:k < fn
  ·obtain ⟨x,hx⟩:=bW (xs:=s.ax) (k:=k) (by rw [Hn.out];exact hlt)
   obtain ⟨b,off,rfl,r0⟩:=hF.out.at hx
   have hlt':(k:Int) < (fn:Int):=by omega
   have Hx:Hid (s.ax[k]?=some x):=hx
   clear hx hF
   cases q:aF x 0 100000000
   ·have Hr:Hid (gV s=false):=by show _=_;rw [HE.out,nB _ Hx.out q];rfl
    go_wp2_with (go_at_call 105;refine (fR _ _ _ _).mono ?_;rintro e w' ⟨rfl,hw'⟩;have hw2:=hw'.symm;subst hw2;rw [q])
    go_ret
    exact ⟨by rw [Hr.out];rfl,kW.trans hK⟩
   ·have HA2:Hid ((s.ax.take (k+1)).all (fun f=>aF f 0 100000000)=true):=tN _ Hx.out HA.out q
    go_wp2_with (go_at_call 105;refine (fR _ _ _ _).mono ?_;rintro e w' ⟨rfl,hw'⟩;have hw2:=hw'.symm;subst hw2;rw [q])
    exact ⟨⟨k+1,by omega,by go_num,HA2,hK⟩,by simp only [intOf];omega⟩
  ·have hlt':decide ((k:Int) < (fn:Int))=false:=by simp;omega
   have Hr:Hid (gV s=((fn:Int)==s.az)):=by
    have h1:=HA.out
    rw [List.take_of_length_le (by have:=Hn.out;omega)] at h1
    show _=_
    rw [HE.out,h1];rfl
   clear HE HA hF
   go_wp2
   go_ret
   exact ⟨by rw [Hr.out];rfl,kW.trans hK⟩
def KS (r:Value) (b:Bool):Prop:=(b=true /\ r = .nilIface)∨(b=false /\ ∃ x:Int,r = .iface 60 (.agg #[.int .i64 x]))
theorem KT (w:World):(Instr.index 122 (.agg #[.func (.func 62) #[] #[],.func (.func 63) #[] #[],.func (.func 64) #[] #[],.func (.func 65) #[] #[],.func (.func 66) #[] #[],.func (.func 67) #[] #[],.func (.func 68) #[] #[]]) (.int .i64 0)).run Tryz.prog w = .ok (.func (.func 62) #[] #[]) w:=by kernel_rfl
theorem KU (w:World):(Instr.index 122 (.agg #[.func (.func 62) #[] #[],.func (.func 63) #[] #[],.func (.func 64) #[] #[],.func (.func 65) #[] #[],.func (.func 66) #[] #[],.func (.func 67) #[] #[],.func (.func 68) #[] #[]]) (.int .i64 1)).run Tryz.prog w = .ok (.func (.func 63) #[] #[]) w:=by kernel_rfl
theorem La (w:World):(Instr.index 122 (.agg #[.func (.func 62) #[] #[],.func (.func 63) #[] #[],.func (.func 64) #[] #[],.func (.func 65) #[] #[],.func (.func 66) #[] #[],.func (.func 67) #[] #[],.func (.func 68) #[] #[]]) (.int .i64 2)).run Tryz.prog w = .ok (.func (.func 64) #[] #[]) w:=by kernel_rfl
theorem Lb (w:World):(Instr.index 122 (.agg #[.func (.func 62) #[] #[],.func (.func 63) #[] #[],.func (.func 64) #[] #[],.func (.func 65) #[] #[],.func (.func 66) #[] #[],.func (.func 67) #[] #[],.func (.func 68) #[] #[]]) (.int .i64 3)).run Tryz.prog w = .ok (.func (.func 65) #[] #[]) w:=by kernel_rfl
theorem Lc (w:World):(Instr.index 122 (.agg #[.func (.func 62) #[] #[],.func (.func 63) #[] #[],.func (.func 64) #[] #[],.func (.func 65) #[] #[],.func (.func 66) #[] #[],.func (.func 67) #[] #[],.func (.func 68) #[] #[]]) (.int .i64 4)).run Tryz.prog w = .ok (.func (.func 66) #[] #[]) w:=by kernel_rfl
theorem Ld (w:World):(Instr.index 122 (.agg #[.func (.func 62) #[] #[],.func (.func 63) #[] #[],.func (.func 64) #[] #[],.func (.func 65) #[] #[],.func (.func 66) #[] #[],.func (.func 67) #[] #[],.func (.func 68) #[] #[]]) (.int .i64 5)).run Tryz.prog w = .ok (.func (.func 67) #[] #[]) w:=by kernel_rfl
theorem Le (w:World):(Instr.index 122 (.agg #[.func (.func 62) #[] #[],.func (.func 63) #[] #[],.func (.func 64) #[] #[],.func (.func 65) #[] #[],.func (.func 66) #[] #[],.func (.func 67) #[] #[],.func (.func 68) #[] #[]]) (.int .i64 6)).run Tryz.prog w = .ok (.func (.func 68) #[] #[]) w:=by kernel_rfl
attribute [local go_sem] KT KU La Lb Lc Ld Le
set_option maxHeartbeats 8000000 in
theorem Lf {w:World} {v:Sv} {s:Sy} (h:aA w v s) :
  Calls Tryz.prog 26 #[.agg (ae s v)] w fun e w'=>∃ r,e = .returned r /\ KS r (rF s) /\ aa w w':=by
 have kW:=cZ w (.cells (ae s v) 30)
 have hb:=dE w (ae s v) 30
 have HS:Hid (aA (w.alloc (.cells (ae s v) 30)) v s):=h.keeps kW
 have HE:Hid (rF s=(inv0 s&&(inv1 s&&(inv2 s&&(fT s&&(gU s&&(gV s&&gF s))))))):=rfl
 have C0:Hid (∀ w',aa (w.alloc (.cells (ae s v) 30)) w'->Calls Tryz.prog 62 #[.agg (ae s v)] w' fun e w''=>e = .returned (.bool (inv0 s)) /\ aa w' w''):=fun w' _=>Ky s v w'
 have C1:Hid (∀ w',aa (w.alloc (.cells (ae s v) 30)) w'->Calls Tryz.prog 63 #[.agg (ae s v)] w' fun e w''=>e = .returned (.bool (inv1 s)) /\ aa w' w''):=fun w' k=>KA (HS.out.keeps k)
 have C2:Hid (∀ w',aa (w.alloc (.cells (ae s v) 30)) w'->Calls Tryz.prog 64 #[.agg (ae s v)] w' fun e w''=>e = .returned (.bool (inv2 s)) /\ aa w' w''):=fun w' k=>KI (HS.out.keeps k)
 have C3:Hid (∀ w',aa (w.alloc (.cells (ae s v) 30)) w'->Calls Tryz.prog 65 #[.agg (ae s v)] w' fun e w''=>e = .returned (.bool (fT s)) /\ aa w' w''):=fun w' k=>KJ (HS.out.keeps k)
 have C4:Hid (∀ w',aa (w.alloc (.cells (ae s v) 30)) w'->inv0 s=true->Calls Tryz.prog 66 #[.agg (ae s v)] w' fun e w''=>e = .returned (.bool (gU s)) /\ aa w' w''):=fun w' k hc=>KM (HS.out.keeps k) hc
 have C5:Hid (∀ w',aa (w.alloc (.cells (ae s v) 30)) w'->Calls Tryz.prog 67 #[.agg (ae s v)] w' fun e w''=>e = .returned (.bool (gV s)) /\ aa w' w''):=fun w' k=>KR (HS.out.keeps k)
 have C6:Hid (∀ w',aa (w.alloc (.cells (ae s v) 30)) w'->Calls Tryz.prog 68 #[.agg (ae s v)] w' fun e w''=>e = .returned (.bool (gF s)) /\ aa w' w''):=fun w' k=>Kz (HS.out.keeps k)
 clear h HS
 obtain ⟨q0,hq0⟩:∃ q,inv0 s=q:=⟨_,rfl⟩
 obtain ⟨q1,hq1⟩:∃ q,inv1 s=q:=⟨_,rfl⟩
 obtain ⟨q2,hq2⟩:∃ q,inv2 s=q:=⟨_,rfl⟩
 obtain ⟨q3,hq3⟩:∃ q,fT s=q:=⟨_,rfl⟩
 obtain ⟨q4,hq4⟩:∃ q,gU s=q:=⟨_,rfl⟩
 obtain ⟨q5,Br⟩:∃ q,gV s=q:=⟨_,rfl⟩
 obtain ⟨q6,Bt⟩:∃ q,gF s=q:=⟨_,rfl⟩
 rw [hq0] at C0 C4 HE
 rw [hq1] at C1 HE
 rw [hq2] at C2 HE
 rw [hq3] at C3 HE
 rw [hq4] at C4 HE
 rw [Br] at C5 HE
 rw [Bt] at C6 HE
 clear hq0 hq1 hq2 hq3 hq4 Br Bt
 have kX:aa (w.alloc (.cells (ae s v) 30)) ((w.alloc (.cells (ae s v) 30)).alloc (.cells #[.func (.func 62) #[] #[],.func (.func 63) #[] #[],.func (.func 64) #[] #[],.func (.func 65) #[] #[],.func (.func 66) #[] #[],.func (.func 67) #[] #[],.func (.func 68) #[] #[]] 122)):=(aa.refl _).alloc _
 go_enter Tryz.func26,Tryz.ntmps26
 go_wp2
 have PB:=kW.trans kX
 have HW:Hid (aa (w.alloc (.cells (ae s v) 30)) ((w.alloc (.cells (ae s v) 30)).alloc (.cells #[.func (.func 62) #[] #[],.func (.func 63) #[] #[],.func (.func 64) #[] #[],.func (.func 65) #[] #[],.func (.func 66) #[] #[],.func (.func 67) #[] #[],.func (.func 68) #[] #[]] 122))):=kX
 clear kX
 generalize (w.alloc (.cells (ae s v) 30)).alloc (.cells #[.func (.func 62) #[] #[],.func (.func 63) #[] #[],.func (.func 64) #[] #[],.func (.func 65) #[] #[],.func (.func 66) #[] #[],.func (.func 67) #[] #[],.func (.func 68) #[] #[]] 122)=Y at *
 generalize w.alloc (.cells (ae s v) 30)=W at *
 go_loopw [8] (fun i wr=>((i = .int .i64 0)∨(i = .int .i64 1 /\ q0=true)∨(i = .int .i64 2 /\ q0=true /\ q1=true)∨(i = .int .i64 3 /\ q0=true /\ q1=true /\ q2=true)∨(i = .int .i64 4 /\ q0=true /\ q1=true /\ q2=true /\ q3=true)∨(i = .int .i64 5 /\ q0=true /\ q1=true /\ q2=true /\ q3=true /\ q4=true)∨(i = .int .i64 6 /\ q0=true /\ q1=true /\ q2=true /\ q3=true /\ q4=true /\ q5=true)∨(i = .int .i64 7 /\ q0=true /\ q1=true /\ q2=true /\ q3=true /\ q4=true /\ q5=true /\ q6=true)) /\ aa W wr) (fun i _=>7 - (intOf i).toNat)
 case atStart=>exact ⟨.inl rfl,HW.out⟩
 case round =>
  obtain ⟨hi,hK⟩:=hrel
  rcases hi with rfl | ⟨rfl,rfl⟩ | ⟨rfl,rfl,rfl⟩ | ⟨rfl,rfl,rfl,rfl⟩ | ⟨rfl,rfl,rfl,rfl,rfl⟩ | ⟨rfl,rfl,rfl,rfl,rfl,rfl⟩ | ⟨rfl,rfl,rfl,rfl,rfl,rfl,rfl⟩ | ⟨rfl,rfl,rfl,rfl,rfl,rfl,rfl,rfl⟩
  ·cases q0
   ·go_wp2_with (go_at_call 62;refine (C0.out _ hK).mono ?_;rintro e w1 ⟨rfl,k1⟩)
    go_ret
    exact ⟨_,rfl,.inr ⟨by rw [HE.out];rfl,_,rfl⟩,kW.trans (hK.trans k1)⟩
   ·go_wp2_with (go_at_call 62;refine (C0.out _ hK).mono ?_;rintro e w1 ⟨rfl,k1⟩)
    exact ⟨⟨by simp,hK.trans k1⟩,by simp [intOf]⟩
  ·cases q1
   ·go_wp2_with (go_at_call 63;refine (C1.out _ hK).mono ?_;rintro e w1 ⟨rfl,k1⟩)
    go_ret
    exact ⟨_,rfl,.inr ⟨by rw [HE.out];rfl,_,rfl⟩,kW.trans (hK.trans k1)⟩
   ·go_wp2_with (go_at_call 63;refine (C1.out _ hK).mono ?_;rintro e w1 ⟨rfl,k1⟩)
    exact ⟨⟨by simp,hK.trans k1⟩,by simp [intOf]⟩
  ·cases q2
   ·go_wp2_with (go_at_call 64;refine (C2.out _ hK).mono ?_;rintro e w1 ⟨rfl,k1⟩)
    go_ret
    exact ⟨_,rfl,.inr ⟨by rw [HE.out];rfl,_,rfl⟩,kW.trans (hK.trans k1)⟩
   ·go_wp2_with (go_at_call 64;refine (C2.out _ hK).mono ?_;rintro e w1 ⟨rfl,k1⟩)
    exact ⟨⟨by simp,hK.trans k1⟩,by simp [intOf]⟩
  ·cases q3
   ·go_wp2_with (go_at_call 65;refine (C3.out _ hK).mono ?_;rintro e w1 ⟨rfl,k1⟩)
    go_ret
    exact ⟨_,rfl,.inr ⟨by rw [HE.out];rfl,_,rfl⟩,kW.trans (hK.trans k1)⟩
   ·go_wp2_with (go_at_call 65;refine (C3.out _ hK).mono ?_;rintro e w1 ⟨rfl,k1⟩)
    exact ⟨⟨by simp,hK.trans k1⟩,by simp [intOf]⟩
  ·cases q4
   ·go_wp2_with (go_at_call 66;refine (C4.out _ hK rfl).mono ?_;rintro e w1 ⟨rfl,k1⟩)
    go_ret
    exact ⟨_,rfl,.inr ⟨by rw [HE.out];rfl,_,rfl⟩,kW.trans (hK.trans k1)⟩
   ·go_wp2_with (go_at_call 66;refine (C4.out _ hK rfl).mono ?_;rintro e w1 ⟨rfl,k1⟩)
    exact ⟨⟨by simp,hK.trans k1⟩,by simp [intOf]⟩
  ·cases q5
   ·go_wp2_with (go_at_call 67;refine (C5.out _ hK).mono ?_;rintro e w1 ⟨rfl,k1⟩)
    go_ret
    exact ⟨_,rfl,.inr ⟨by rw [HE.out];rfl,_,rfl⟩,kW.trans (hK.trans k1)⟩
   ·go_wp2_with (go_at_call 67;refine (C5.out _ hK).mono ?_;rintro e w1 ⟨rfl,k1⟩)
    exact ⟨⟨by simp,hK.trans k1⟩,by simp [intOf]⟩
  ·cases q6
   ·go_wp2_with (go_at_call 68;refine (C6.out _ hK).mono ?_;rintro e w1 ⟨rfl,k1⟩)
    go_ret
    exact ⟨_,rfl,.inr ⟨by rw [HE.out];rfl,_,rfl⟩,kW.trans (hK.trans k1)⟩
   ·go_wp2_with (go_at_call 68;refine (C6.out _ hK).mono ?_;rintro e w1 ⟨rfl,k1⟩)
    exact ⟨⟨by simp,hK.trans k1⟩,by simp [intOf]⟩
  ·go_wp2
   go_ret
   exact ⟨_,rfl,.inl ⟨by rw [HE.out];rfl,rfl⟩,kW.trans hK⟩
set_option maxHeartbeats 2000000 in
theorem A2:EJ:=by
 intro w v s hg h
 have HI:Hid (rF s=bf s):=Lg s
 have kW:aa w ((w.alloc (.cells (ae s v) 30)).alloc (.cells #[.int .i64 0] 60)):=((aa.refl w).alloc _).alloc _
 have hb:∀ w',aa ((w.alloc (.cells (ae s v) 30)).alloc (.cells #[.int .i64 0] 60)) w'->∀ j,w'.cell? ⟨w.heap.size,j,none⟩=(ae s v)[j]?:=fun w' k=>(((ai.new w (ae s v) 30).alloc _).keeps k).cells
 have B1:Hid (ai ((w.alloc (.cells (ae s v) 30)).alloc (.cells #[.int .i64 0] 60)) (w.heap.size+1) #[.int .i64 0]):=by
  have:=ai.new (w.alloc (.cells (ae s v) 30)) #[.int .i64 0] 60
  show ai _ _ _
  simpa using this
 have HS:Hid (aA ((w.alloc (.cells (ae s v) 30)).alloc (.cells #[.int .i64 0] 60)) v s):=h.keeps kW
 have HG:Hid (dF ((w.alloc (.cells (ae s v) 30)).alloc (.cells #[.int .i64 0] 60))):=hg.keeps kW
 clear h hg
 go_enter Tryz.func8,Tryz.ntmps8
 go_wp2_with fail
 generalize (w.alloc (.cells (ae s v) 30)).alloc (.cells #[.int .i64 0] 60)=W at *
 refine (Lf HS.out).mono ?_
 rintro e w1 ⟨r,rfl,hr,k1⟩
 rw [HI.out] at hr
 rcases hr with ⟨hr,rfl⟩ | ⟨hr,x,rfl⟩
 ·have Hr:Hid (bf s=true):=hr
  clear hr
  go_wp2_with (go_at_call 25;refine (Io _ _).mono ?_;rintro e w2 ⟨rfl,hw2⟩;have hw3:=hw2.symm;subst hw3)
  go_ret
  exact ⟨by rw [Hr.out];rfl,kW.trans k1⟩
 ·have Hr:Hid (bf s=false):=hr
  have B2:=B1.out.keeps k1
  have hc:w1.cell? ⟨w.heap.size+1,0,none⟩=some (.int .i64 0):=by rw [B2.cells 0];rfl
  have hz:w1.frozen? ⟨w.heap.size+1,0,none⟩=false:=B2.aM 0
  have HA:Hid (Calls Tryz.prog 25 #[.iface 60 (.agg #[.int .i64 x]),.iface 65 (.pointer (some ⟨w.heap.size+1,0,none⟩))] w1 fun ev w'=>ev = .returned (.bool true) /\ aa w w'):=(IK x (w.heap.size+1) _ w1 (HG.out.keeps k1) hc hz).mono fun ev w' ⟨h1,h2⟩=>⟨h1,by
   rw [h2]
   exact ((((((kW.trans k1).alloc _).alloc _).alloc _).alloc _).setCell (by show w.heap.size <= w.heap.size+1;omega) _)⟩
  clear hr B2 hc hz
  go_wp2_with (go_at_call 25;refine HA.out.mono ?_;rintro e w2 ⟨rfl,k2⟩)
  go_ret
  exact ⟨by rw [Hr.out];rfl,k2⟩
end Go.Proofs.YteagpjlgjfaclaaGreatDoor
