/-
  The program's invariants of a system, its first mistake, an
-/
import Derived.Test.YteagpjlgjfaclaaGreatDoorImplSys
import Derived.Test.YteagpjlgjfaclaaGreatDoorLockDraw2
import Derived.Test.YteagpjlgjfaclaaGreatDoorSysShareL
import Derived.Test.YteagpjlgjfaclaaGreatDoorPlain1
import Derived.Test.YteagpjlgjfaclaaGreatDoorDraw1
import Derived.Test.YteagpjlgjfaclaaGreatDoorSysLaws
import Derived.Deep.RegionHeld3
import Derived.Laws.EntriesVeiled
namespace Go.Proofs.YteagpjlgjfaclaaGreatDoor
set_option maxRecDepth 100000
open Go.RowKit
attribute [local go_sem] Keeps.refl Keeps.alloc Keeps.drew Keeps.drewN
theorem qfa (s:Sy) (v:Sv) (c:Int) (w:World) :
  Calls Tryz.prog 106 #[.agg (syc s v),.int .i64 c] w fun e w'=>e = .returned (.bool (qbc s c)) /\ Keeps w w':=by
 cases c1:decide (0 <= c)
 ·have Hr:Hid (qbc s c=false):=by show _=_;unfold qbc;rw [c1];rfl
  go_enter Tryz.func106,Tryz.ntmps106
  go_wp2
  go_ret
  exact ⟨by rw [Hr.out];rfl,(Keeps.refl _).alloc _⟩
 ·have Hr:Hid (qbc s c=decide (c < s.cpus)):=by show _=_;unfold qbc;rw [c1];rfl
  go_enter Tryz.func106,Tryz.ntmps106
  go_wp2
  go_ret
  exact ⟨by rw [Hr.out];rfl,(Keeps.refl _).alloc _⟩
theorem qj7 (s:Sy) (v:Sv) (w:World) :
  Calls Tryz.prog 62 #[.agg (syc s v)] w fun e w'=>e = .returned (.bool (inv0 s)) /\ Keeps w w':=by
 have HE:Hid (inv0 s=(inB s.now 0 100000&&inB s.cpus 1 4)):=rfl
 have I1:=qaN s.now 0 100000
 have I2:=qaN s.cpus 1 4
 obtain ⟨p,hp⟩:∃ p,inB s.now 0 100000=p:=⟨_,rfl⟩
 obtain ⟨q,hq⟩:∃ q,inB s.cpus 1 4=q:=⟨_,rfl⟩
 rw [hp] at I1 HE
 rw [hq] at I2 HE
 clear hp hq
 cases p
 ·have Hr:Hid (inv0 s=false):=HE
  go_enter Tryz.func62,Tryz.ntmps62
  go_wp2_with (go_at_call 105;have i1:=I1;clear I1;refine (i1 _).mono ?_;rintro e w' ⟨rfl,hw'⟩;have hw2:=hw'.symm;subst hw2)
  go_ret
  exact ⟨by rw [Hr.out];rfl,(Keeps.refl _).alloc _⟩
 ·have Hr:Hid (inv0 s=q):=HE
  go_enter Tryz.func62,Tryz.ntmps62
  go_wp2_with (first
   | (go_at_call 105;have i1:=I1;clear I1;refine (i1 _).mono ?_;rintro e w' ⟨rfl,hw'⟩;have hw2:=hw'.symm;subst hw2)
   | (go_at_call 105;have i2:=I2;clear I2;refine (i2 _).mono ?_;rintro e w' ⟨rfl,hw'⟩;have hw2:=hw'.symm;subst hw2))
  go_ret
  exact ⟨by rw [Hr.out];rfl,(Keeps.refl _).alloc _⟩
theorem qj8 {w:World} {v:Sv} {s:Sy} (h:SysOn w v s) :
  Calls Tryz.prog 68 #[.agg (syc s v)] w fun e w'=>e = .returned (.bool (inv6 s)) /\ Keeps w w':=by
 have hl:s.trace.length=v.r.n:=h.lay.rl
 have HE:Hid (inv6 s=(inB s.seq 0 1000000&&(inB s.missed 0 100000&&decide (v.r.n <= 400)))):=by show _=_;unfold inv6;rw [hl]
 clear hl h
 have I1:=qaN s.seq 0 1000000
 have I2:=qaN s.missed 0 100000
 obtain ⟨p,hp⟩:∃ p,inB s.seq 0 1000000=p:=⟨_,rfl⟩
 obtain ⟨q,hq⟩:∃ q,inB s.missed 0 100000=q:=⟨_,rfl⟩
 rw [hp] at I1 HE
 rw [hq] at I2 HE
 clear hp hq
 cases p
 ·have Hr:Hid (inv6 s=false):=HE
  go_enter Tryz.func68,Tryz.ntmps68
  go_wp2_with (go_at_call 105;have i1:=I1;clear I1;refine (i1 _).mono ?_;rintro e w' ⟨rfl,hw'⟩;have hw2:=hw'.symm;subst hw2)
  go_ret
  exact ⟨by rw [Hr.out];rfl,(Keeps.refl _).alloc _⟩
 cases q
 ·have Hr:Hid (inv6 s=false):=HE
  go_enter Tryz.func68,Tryz.ntmps68
  go_wp2_with (first
   | (go_at_call 105;have i1:=I1;clear I1;refine (i1 _).mono ?_;rintro e w' ⟨rfl,hw'⟩;have hw2:=hw'.symm;subst hw2)
   | (go_at_call 105;have i2:=I2;clear I2;refine (i2 _).mono ?_;rintro e w' ⟨rfl,hw'⟩;have hw2:=hw'.symm;subst hw2))
  go_ret
  exact ⟨by rw [Hr.out];rfl,(Keeps.refl _).alloc _⟩
 ·have Hr:Hid (inv6 s=decide (v.r.n <= 400)):=HE
  have hd:decide ((v.r.n:Int) <= 400)=decide (v.r.n <= 400):=by rw [Bool.eq_iff_iff];simp only [decide_eq_true_eq];omega
  obtain ⟨z,hz⟩:∃ z,decide (v.r.n <= 400)=z:=⟨_,rfl⟩
  rw [hz] at hd Hr
  clear hz
  go_enter Tryz.func68,Tryz.ntmps68
  go_wp2_with (first
   | (go_at_call 105;have i1:=I1;clear I1;refine (i1 _).mono ?_;rintro e w' ⟨rfl,hw'⟩;have hw2:=hw'.symm;subst hw2)
   | (go_at_call 105;have i2:=I2;clear I2;refine (i2 _).mono ?_;rintro e w' ⟨rfl,hw'⟩;have hw2:=hw'.symm;subst hw2))
  go_ret
  exact ⟨by rw [Hr.out,<- hd];rfl,(Keeps.refl _).alloc _⟩
theorem qex {α:Type} (p:α->Bool) {xs:List α} {k:Nat} {x:α} (hx:xs[k]?=some x) (h:(xs.take k).all p=true) (hp:p x=true):(xs.take (k+1)).all p=true:=by
 rw [qb6 hx,List.all_append,h]
 simp [hp]
theorem qc3 {α:Type} (p:α->Bool) {xs:List α} {k:Nat} {x:α} (hx:xs[k]?=some x) (hp:p x=false):xs.all p=false:=by
 rw [<- Bool.not_eq_true,List.all_eq_true]
 intro h
 have:=h x (List.mem_iff_getElem?.2 ⟨k,hx⟩)
 rw [hp] at this
 cases this
set_option maxHeartbeats 2000000 in
theorem qj9 {w:World} {v:Sv} {s:Sy} (h:SysOn w v s) :
  Calls Tryz.prog 63 #[.agg (syc s v)] w fun e w'=>e = .returned (.bool (inv1 s)) /\ Keeps w w':=by
 obtain ⟨⟨ta,tn,tcap⟩,vl,vg,vf,vr⟩:=v
 have hm1:tn <= 2000000:=by have h1:=h.size;have h2:s.tasks.length=tn:=h.lay.tl;unfold qai at h1;omega
 have Hn:Hid (s.tasks.length=tn):=h.lay.tl
 have kW:=blkK w (.cells (syc s ⟨⟨ta,tn,tcap⟩,vl,vg,vf,vr⟩) 30)
 have hb:=blkR w (syc s ⟨⟨ta,tn,tcap⟩,vl,vg,vf,vr⟩) 30
 have HS:Hid (SysOn (w.alloc (.cells (syc s ⟨⟨ta,tn,tcap⟩,vl,vg,vf,vr⟩) 30)) ⟨⟨ta,tn,tcap⟩,vl,vg,vf,vr⟩ s):=h.keeps kW
 have hT:Hid (OnT (w.alloc (.cells (syc s ⟨⟨ta,tn,tcap⟩,vl,vg,vf,vr⟩) 30)) ta tn tcap s.tasks):=HS.out.onT
 have HC:Hid (∀ (c:Int) (w':World),Calls Tryz.prog 106 #[.agg (syc s ⟨⟨ta,tn,tcap⟩,vl,vg,vf,vr⟩),.int .i64 c] w' fun e w''=>e = .returned (.bool (qbc s c)) /\ Keeps w' w''):=fun c w'=>qfa s _ c w'
 have HO:Hid (∀ w',Keeps (w.alloc (.cells (syc s ⟨⟨ta,tn,tcap⟩,vl,vg,vf,vr⟩) 30)) w'->Calls Tryz.prog 33 #[.slice ta tn tcap] w' fun e w''=>e = .returned (.bool (qav s.tasks)) /\ Keeps w' w''):=fun w' k=>by
  have:=qfc ta tcap s.tasks w' hT.out.small (hT.out.keeps k).lies
  rw [hT.out.len] at this
  exact this
 have HE:Hid (inv1 s=(s.tasks.all (fun t=>qbc s t.cpu)&&qav s.tasks)):=rfl
 clear h HS
 go_enter Tryz.func63,Tryz.ntmps63
 go_wp2
 generalize w.alloc (.cells (syc s ⟨⟨ta,tn,tcap⟩,vl,vg,vf,vr⟩) 30)=W at *
 go_loopw [8] (fun i wr=>∃ k:Nat,k <= tn /\ i = .int .i64 k /\ Hid ((s.tasks.take k).all (fun t=>qbc s t.cpu)=true) /\ Keeps W wr) (fun i _=>tn - (intOf i).toNat)
 case atStart=>exact ⟨0,Nat.zero_le _,rfl,by show _=_;simp,Keeps.refl _⟩
 case round =>
  obtain ⟨k,hk,rfl,HA,hK⟩:=hrel
  by_cases hlt:k < tn
  ·obtain ⟨t,ht⟩:=qal (xs:=s.tasks) (k:=k) (by rw [Hn.out];exact hlt)
   obtain ⟨b,off,rfl,r0,r1⟩:=hT.out.lies.at ht (by omega)
   have hlt':(k:Int) < (tn:Int):=by omega
   have Ht:Hid (s.tasks[k]?=some t):=ht
   have Hc:Hid (∀ w':World,Calls Tryz.prog 106 #[.agg (syc s ⟨⟨some ⟨b,off,none⟩,tn,tcap⟩,vl,vg,vf,vr⟩),.int .i64 t.cpu] w' fun e w''=>e = .returned (.bool (qbc s t.cpu)) /\ Keeps w' w''):=fun w'=>HC.out t.cpu w'
   clear ht HC hT
   cases q:qbc s t.cpu
   ·have Hr:Hid (inv1 s=false):=by show _=_;rw [HE.out,qc3 _ Ht.out q];rfl
    rw [q] at Hc
    clear HO
    go_wp2_with (go_at_call 106;refine (Hc.out _).mono ?_;rintro e w1 ⟨rfl,k1⟩;have K1:=(hK.alloc (.cells (tc t) 43)).trans k1)
    go_ret
    exact ⟨by rw [Hr.out];rfl,kW.trans K1⟩
   ·rw [q] at Hc
    clear HO
    go_wp2_with (go_at_call 106;refine (Hc.out _).mono ?_;rintro e w1 ⟨rfl,k1⟩;have K1:=(hK.alloc (.cells (tc t) 43)).trans k1)
    exact ⟨⟨k+1,by omega,by go_num,qex _ Ht.out HA.out q,K1⟩,by simp only [intOf];omega⟩
  ·have hlt':decide ((k:Int) < (tn:Int))=false:=by simp;omega
   have Hr:Hid (inv1 s=qav s.tasks):=by
    have h1:=HA.out
    rw [List.take_of_length_le (by have:=Hn.out;omega)] at h1
    show _=_
    rw [HE.out,h1];rfl
   obtain ⟨z,Hz⟩:∃ z,Hid (qav s.tasks=z):=⟨_,rfl⟩
   rw [Hz.out] at HO Hr
   clear hT HC HA
   go_wp2_with (go_at_call 33;refine (HO.out _ hK).mono ?_;rintro e w1 ⟨rfl,k1⟩)
   go_ret
   exact ⟨by rw [Hr.out];rfl,kW.trans (hK.trans k1)⟩
set_option maxHeartbeats 2000000 in
theorem qka {w:World} {v:Sv} {s:Sy} (h:SysOn w v s) {i:Nat} {l:Lk} (hl:s.locks[i]?=some l) :
  Calls Tryz.prog 107 #[.agg (syc s v),.int .i64 (i:Int)] w fun e w'=>e = .returned (.bool (qbW s i l)) /\ Keeps w w':=by
 obtain ⟨vt,⟨la,ln,lcap⟩,vg,vf,vr⟩:=v
 have hm2:ln <= 2000000:=by have h1:=h.size;have h2:s.locks.length=ln:=h.lay.ll;have h3:=qc5 s.locks;unfold qai at h1;omega
 have hw0:l.waits.length <= 2000000:=by
  have h1:=qcM hl
  have h2:=h.size
  unfold qai qaj at h2
  omega
 have hL0:On w la ln lcap s.locks:=h.onL
 obtain ⟨hkn,b,off,a',cap',rfl,-,-,-,-⟩:=hL0.at hl
 clear hL0
 have kW:=blkK w (.cells (syc s ⟨vt,⟨some ⟨b,off,none⟩,ln,lcap⟩,vg,vf,vr⟩) 30)
 have hb:=blkR w (syc s ⟨vt,⟨some ⟨b,off,none⟩,ln,lcap⟩,vg,vf,vr⟩) 30
 have HS:Hid (SysOn (w.alloc (.cells (syc s ⟨vt,⟨some ⟨b,off,none⟩,ln,lcap⟩,vg,vf,vr⟩) 30)) ⟨vt,⟨some ⟨b,off,none⟩,ln,lcap⟩,vg,vf,vr⟩ s):=h.keeps kW
 have hL:On (w.alloc (.cells (syc s ⟨vt,⟨some ⟨b,off,none⟩,ln,lcap⟩,vg,vf,vr⟩) 30)) (some ⟨b,off,none⟩) ln lcap s.locks:=HS.out.onL
 clear a' cap'
 obtain ⟨-,b',off',a',cap',ha,r0,r1,hle,hns⟩:=hL.at hl
 simp only [Option.some.injEq,Addr.mk.injEq] at ha
 obtain ⟨rfl,rfl,-⟩:=ha
 have hki:(i:Int) < (ln:Int):=by omega
 have HC:Hid (∀ (x:Int) (w':World),Keeps (w.alloc (.cells (syc s ⟨vt,⟨some ⟨b,off,none⟩,ln,lcap⟩,vg,vf,vr⟩) 30)) w'->Calls Tryz.prog 156 #[.agg (syc s ⟨vt,⟨some ⟨b,off,none⟩,ln,lcap⟩,vg,vf,vr⟩),.int .i64 (i:Int),.int .i64 x] w' fun e w''=>e = .returned (.bool (qaD s i x)) /\ Keeps w' w''):=fun x w' k=>qj5 w' _ s i x (HS.out.keeps k)
 have HE:Hid (qbW s i l=(l.waits.all (fun x=>qaD s i x)&&(l.owner==0||qaD s i l.owner))):=rfl
 obtain ⟨m,Hm⟩:∃ m:Nat,Hid (l.waits.length=m):=⟨_,rfl⟩
 rw [Hm.out] at r1 hw0
 have Hns:Hid (Ns (w.alloc (.cells (syc s ⟨vt,⟨some ⟨b,off,none⟩,ln,lcap⟩,vg,vf,vr⟩) 30)) a' l.waits):=hns
 clear h HS hL hl hns hle
 go_enter Tryz.func107,Tryz.ntmps107
 go_wp2
 generalize w.alloc (.cells (syc s ⟨vt,⟨some ⟨b,off,none⟩,ln,lcap⟩,vg,vf,vr⟩) 30)=W at *
 go_loopw [15] (fun j wr=>∃ k:Nat,k <= m /\ j = .int .i64 k /\ Hid ((l.waits.take k).all (fun x=>qaD s i x)=true) /\ Keeps W wr) (fun j _=>m - (intOf j).toNat)
 case atStart=>exact ⟨0,Nat.zero_le _,rfl,by show _=_;simp,Keeps.refl _⟩
 case round =>
  obtain ⟨k,hk,rfl,HA,hK⟩:=hrel
  by_cases hlt:k < m
  ·obtain ⟨x,hx⟩:=qal (xs:=l.waits) (k:=k) (by rw [Hm.out];exact hlt)
   obtain ⟨b2,off2,rfl,x0⟩:=Hns.out.at hx
   have hlt':(k:Int) < (m:Int):=by omega
   have Hx:Hid (l.waits[k]?=some x):=hx
   have Hc:Hid (∀ w',Keeps W w'->Calls Tryz.prog 156 #[.agg (syc s ⟨vt,⟨some ⟨b,off,none⟩,ln,lcap⟩,vg,vf,vr⟩),.int .i64 (i:Int),.int .i64 x] w' fun e w''=>e = .returned (.bool (qaD s i x)) /\ Keeps w' w''):=fun w' k=>HC.out x w' k
   clear hx HC Hns
   cases q:qaD s i x
   ·have Hr:Hid (qbW s i l=false):=by show _=_;rw [HE.out,qc3 _ Hx.out q];rfl
    rw [q] at Hc
    go_wp2_with (go_at_call 156;refine (Hc.out _ hK).mono ?_;rintro e w1 ⟨rfl,k1⟩)
    go_ret
    exact ⟨by rw [Hr.out];rfl,kW.trans (hK.trans k1)⟩
   ·rw [q] at Hc
    go_wp2_with (go_at_call 156;refine (Hc.out _ hK).mono ?_;rintro e w1 ⟨rfl,k1⟩)
    exact ⟨⟨k+1,by omega,by go_num,qex _ Hx.out HA.out q,hK.trans k1⟩,by simp only [intOf];omega⟩
  ·have hlt':decide ((k:Int) < (m:Int))=false:=by simp;omega
   have Hr:Hid (qbW s i l=(l.owner==0||qaD s i l.owner)):=by
    have h1:=HA.out
    rw [List.take_of_length_le (by have:=Hm.out;omega)] at h1
    show _=_
    rw [HE.out,h1];rfl
   have Hc:Hid (∀ w',Keeps W w'->Calls Tryz.prog 156 #[.agg (syc s ⟨vt,⟨some ⟨b,off,none⟩,ln,lcap⟩,vg,vf,vr⟩),.int .i64 (i:Int),.int .i64 l.owner] w' fun e w''=>e = .returned (.bool (qaD s i l.owner)) /\ Keeps w' w''):=fun w' k=>HC.out l.owner w' k
   clear HC HA HE
   cases q:(l.owner==0)
   ·rw [q] at Hr
    obtain ⟨z,Hz⟩:∃ z,Hid (qaD s i l.owner=z):=⟨_,rfl⟩
    rw [Hz.out] at Hc Hr
    go_wp2_with (go_at_call 156;refine (Hc.out _ hK).mono ?_;rintro e w1 ⟨rfl,k1⟩)
    go_ret
    exact ⟨by rw [Hr.out];rfl,kW.trans (hK.trans k1)⟩
   ·rw [q] at Hr
    go_wp2
    go_ret
    exact ⟨by rw [Hr.out];rfl,kW.trans hK⟩
set_option maxHeartbeats 2000000 in
theorem qkb {w:World} {v:Sv} {s:Sy} (h:SysOn w v s) :
  Calls Tryz.prog 64 #[.agg (syc s v)] w fun e w'=>e = .returned (.bool (inv2 s)) /\ Keeps w w':=by
 have hm2:v.l.n <= 2000000:=by have h1:=h.size;have h2:=h.lay.ll;have h3:=qc5 s.locks;unfold qai at h1;omega
 have Hn:Hid (s.locks.length=v.l.n):=h.lay.ll
 have kW:=blkK w (.cells (syc s v) 30)
 have hb:=blkR w (syc s v) 30
 have HS:Hid (SysOn (w.alloc (.cells (syc s v) 30)) v s):=h.keeps kW
 have HO:Hid (∀ w',Keeps (w.alloc (.cells (syc s v) 30)) w'->Calls Tryz.prog 75 #[.slice v.l.a v.l.n v.l.cap] w' fun e w''=>e = .returned (.bool (qax s.locks)) /\ Keeps w' w''):=fun w' k=>by
  have h1:=HS.out.onL.keeps k
  have:=qjT v.l.a v.l.cap s.locks w' (by have:=h1.size;omega) h1.lks
  rw [h1.len] at this
  exact this
 have HC:Hid (∀ (i:Nat) (l:Lk),s.locks[i]?=some l->∀ w',Keeps (w.alloc (.cells (syc s v) 30)) w'->Calls Tryz.prog 107 #[.agg (syc s v),.int .i64 (i:Int)] w' fun e w''=>e = .returned (.bool (qbW s i l)) /\ Keeps w' w''):=fun i l hl w' k=>qka (HS.out.keeps k) hl
 have HE:Hid (inv2 s=((v.l.n==5)&&(qax s.locks&&(List.range v.l.n).all (fun i=>qbW s i (s.locks.getD i ⟨0,[]⟩))))):=by show _=_;unfold inv2;rw [h.lay.ll]
 clear h HS
 by_cases h5:v.l.n=5
 rotate_left
 ·have hd:decide ((v.l.n:Int)=5)=false:=by simp;omega
  have hd2:((v.l.n:Int)==5)=false:=by simp;omega
  have hd3:((v.l.n:Int) != 5)=true:=by simp;omega
  have Hr:Hid (inv2 s=false):=by show _=_;rw [HE.out,show (v.l.n==5)=false from by simpa using h5];rfl
  clear h5
  go_enter Tryz.func64,Tryz.ntmps64
  go_wp2
  go_ret
  exact ⟨by rw [Hr.out];rfl,kW⟩
 have hd2:((v.l.n:Int)==5)=true:=by simp;omega
 have hd3:((v.l.n:Int) != 5)=false:=by simp;omega
 have HE2:Hid (inv2 s=(qax s.locks&&(List.range v.l.n).all (fun i=>qbW s i (s.locks.getD i ⟨0,[]⟩)))):=by show _=_;rw [HE.out,show (v.l.n==5)=true from by simpa using h5];rfl
 have H5:Hid (v.l.n=5):=h5
 clear HE h5
 cases q:qax s.locks
 ·rw [q] at HO HE2
  have Hr:Hid (inv2 s=false):=HE2
  go_enter Tryz.func64,Tryz.ntmps64
  go_wp2_with fail
  generalize w.alloc (.cells (syc s v) 30)=W at *
  go_wp2_with (go_at_call 75;refine (HO.out _ (Keeps.refl _)).mono ?_;rintro e w1 ⟨rfl,k1⟩)
  go_ret
  exact ⟨by rw [Hr.out];rfl,kW.trans k1⟩
 rw [q] at HO HE2
 go_enter Tryz.func64,Tryz.ntmps64
 go_wp2_with fail
 generalize w.alloc (.cells (syc s v) 30)=W at *
 go_wp2_with (go_at_call 75;refine (HO.out _ (Keeps.refl _)).mono ?_;rintro e w1 ⟨rfl,k1⟩)
 clear HO
 go_loopw [17] (fun j wr=>∃ k:Nat,k <= v.l.n /\ j = .int .i64 k /\ Hid ((List.range k).all (fun i=>qbW s i (s.locks.getD i ⟨0,[]⟩))=true) /\ Keeps W wr) (fun j _=>v.l.n - (intOf j).toNat)
 case atStart=>exact ⟨0,Nat.zero_le _,rfl,by show _=_;simp,k1⟩
 case round =>
  obtain ⟨k,hk,rfl,HA,hK⟩:=hrel
  by_cases hlt:k < v.l.n
  ·obtain ⟨l,hl⟩:=qal (xs:=s.locks) (k:=k) (by rw [Hn.out];exact hlt)
   have hlt':(k:Int) < (v.l.n:Int):=by omega
   have Hc:Hid (∀ w',Keeps W w'->Calls Tryz.prog 107 #[.agg (syc s v),.int .i64 (k:Int)] w' fun e w''=>e = .returned (.bool (qbW s k l)) /\ Keeps w' w''):=fun w' h=>HC.out k l hl w' h
   have Hl:Hid (s.locks.getD k ⟨0,[]⟩=l):=qcS hl
   clear hl HC
   cases q2:qbW s k l
   ·have Hr:Hid (inv2 s=false):=by
     show _=_
     rw [HE2.out,qc3 _ (k:=k) (x:=k) (by simp [hlt]) (by rw [Hl.out];exact q2)]
     rfl
    rw [q2] at Hc
    go_wp2_with (go_at_call 107;refine (Hc.out _ hK).mono ?_;rintro e w2 ⟨rfl,k2⟩)
    go_ret
    exact ⟨by rw [Hr.out];rfl,kW.trans (hK.trans k2)⟩
   ·have HA2:Hid ((List.range (k+1)).all (fun i=>qbW s i (s.locks.getD i ⟨0,[]⟩))=true):=by
     show _=_
     rw [List.range_succ,List.all_append,HA.out]
     simp only [List.all_cons,List.all_nil,Bool.and_true,Bool.true_and]
     rw [Hl.out];exact q2
    rw [q2] at Hc
    go_wp2_with (go_at_call 107;refine (Hc.out _ hK).mono ?_;rintro e w2 ⟨rfl,k2⟩)
    exact ⟨⟨k+1,by omega,by go_num,HA2,hK.trans k2⟩,by simp only [intOf];omega⟩
  ·have hlt':decide ((k:Int) < (v.l.n:Int))=false:=by simp;omega
   have Hr:Hid (inv2 s=true):=by
    show _=_
    rw [HE2.out,show v.l.n=k from by omega,HA.out];rfl
   go_wp2
   go_ret
   exact ⟨by rw [Hr.out];rfl,kW.trans hK⟩
set_option maxHeartbeats 2000000 in
theorem qkc {w:World} {v:Sv} {s:Sy} (h:SysOn w v s) :
  Calls Tryz.prog 65 #[.agg (syc s v)] w fun e w'=>e = .returned (.bool (inv3 s)) /\ Keeps w w':=by
 obtain ⟨vt,vl,⟨ga,gn,gcap⟩,vf,vr⟩:=v
 have hm1:gn <= 2000000:=by have h1:=h.size;have h2:s.ghosts.length=gn:=h.lay.gl;unfold qai at h1;omega
 have Hn:Hid (s.ghosts.length=gn):=h.lay.gl
 have kW:=blkK w (.cells (syc s ⟨vt,vl,⟨ga,gn,gcap⟩,vf,vr⟩) 30)
 have hb:=blkR w (syc s ⟨vt,vl,⟨ga,gn,gcap⟩,vf,vr⟩) 30
 have HS:Hid (SysOn (w.alloc (.cells (syc s ⟨vt,vl,⟨ga,gn,gcap⟩,vf,vr⟩) 30)) ⟨vt,vl,⟨ga,gn,gcap⟩,vf,vr⟩ s):=h.keeps kW
 have hG:Hid (Gs (w.alloc (.cells (syc s ⟨vt,vl,⟨ga,gn,gcap⟩,vf,vr⟩) 30)) ga s.ghosts):=HS.out.lay.g
 have HE:Hid (inv3 s=(s.ghosts.all (qde s)&&decide (gn <= 12))):=by show _=_;unfold inv3;rw [Hn.out]
 clear h HS
 go_enter Tryz.func65,Tryz.ntmps65
 go_wp2
 generalize w.alloc (.cells (syc s ⟨vt,vl,⟨ga,gn,gcap⟩,vf,vr⟩) 30)=W at *
 go_loopw [8] (fun i wr=>∃ k:Nat,k <= gn /\ i = .int .i64 k /\ Hid ((s.ghosts.take k).all (qde s)=true) /\ Keeps W wr) (fun i _=>gn - (intOf i).toNat)
 case atStart=>exact ⟨0,Nat.zero_le _,rfl,by show _=_;simp,Keeps.refl _⟩
 case round =>
  obtain ⟨k,hk,rfl,HA,hK⟩:=hrel
  by_cases hlt:k < gn
  ·obtain ⟨g,hg⟩:=qal (xs:=s.ghosts) (k:=k) (by rw [Hn.out];exact hlt)
   obtain ⟨b,off,rfl,r0,r1⟩:=hG.out.at hg (by omega)
   have hlt':(k:Int) < (gn:Int):=by omega
   have Hg:Hid (s.ghosts[k]?=some g):=hg
   have HB:Hid (qde s g=(qbc s g.cpu&&(okB g.q g.p&&inB g.til 0 100040))):=rfl
   have C1:Hid (∀ w':World,Calls Tryz.prog 106 #[.agg (syc s ⟨vt,vl,⟨some ⟨b,off,none⟩,gn,gcap⟩,vf,vr⟩),.int .i64 g.cpu] w' fun e w''=>e = .returned (.bool (qbc s g.cpu)) /\ Keeps w' w''):=fun w'=>qfa s _ g.cpu w'
   have C2:Hid (∀ w':World,Calls Tryz.prog 94 #[sh g.q g.p] w' fun e w''=>e = .returned (.bool (okB g.q g.p)) /\ Keeps w' w''):=fun w'=>(qdR g.q g.p w').mono fun e w'' ⟨h1,h2⟩=>⟨h1,by rw [h2];exact (Keeps.refl w').alloc _⟩
   have C3:Hid (∀ w':World,Calls Tryz.prog 105 #[.int .i64 g.til,.int .i64 0,.int .i64 100040] w' fun e w''=>e = .returned (.bool (inB g.til 0 100040)) /\ Keeps w' w''):=fun w'=>(qaN g.til 0 100040 w').mono fun e w'' ⟨h1,h2⟩=>⟨h1,by rw [h2];exact Keeps.refl w'⟩
   clear hg hG
   cases q1:qbc s g.cpu
   ·have Hr:Hid (inv3 s=false):=by show _=_;rw [HE.out,qc3 _ Hg.out (by rw [HB.out,q1];rfl)];rfl
    rw [q1] at C1
    go_wp2_with (go_at_call 106;refine (C1.out _).mono ?_;rintro e w1 ⟨rfl,k1⟩;have K1:=(hK.alloc (.cells (ghc g) 87)).trans k1;have bx1:=((Blk.new wr (ghc g) 87).keeps k1).cells;clear k1)
    go_ret
    exact ⟨by rw [Hr.out];rfl,kW.trans K1⟩
   rw [q1] at C1
   have BX:∀ w1:World,Keeps (wr.alloc (.cells (ghc g) 87)) w1->∀ w',Keeps w1 w'->∀ j,w'.cell? ⟨wr.heap.size,j,none⟩=(ghc g)[j]?:=fun w1 h1 w' h2=>((Blk.new wr (ghc g) 87).keeps (h1.trans h2)).cells
   cases q2:okB g.q g.p
   ·have Hr:Hid (inv3 s=false):=by show _=_;rw [HE.out,qc3 _ Hg.out (by rw [HB.out,q1,q2];rfl)];rfl
    rw [q2] at C2
    go_wp2_with (first
     | (go_at_call 106;refine (C1.out _).mono ?_;rintro e w1 ⟨rfl,k1⟩;have K1:=(hK.alloc (.cells (ghc g) 87)).trans k1;have bx1:=BX w1 k1;clear k1)
     | (go_at_call 94;refine (C2.out _).mono ?_;rintro e w2 ⟨rfl,k2⟩;have K2:=K1.trans k2))
    go_ret
    exact ⟨by rw [Hr.out];rfl,kW.trans K2⟩
   rw [q2] at C2
   cases q3:inB g.til 0 100040
   ·have Hr:Hid (inv3 s=false):=by show _=_;rw [HE.out,qc3 _ Hg.out (by rw [HB.out,q1,q2,q3];rfl)];rfl
    rw [q3] at C3
    go_wp2_with (first
     | (go_at_call 106;refine (C1.out _).mono ?_;rintro e w1 ⟨rfl,k1⟩;have K1:=(hK.alloc (.cells (ghc g) 87)).trans k1;have bx1:=BX w1 k1;clear k1)
     | (go_at_call 94;refine (C2.out _).mono ?_;rintro e w2 ⟨rfl,k2⟩;have K2:=K1.trans k2)
     | (go_at_call 105;refine (C3.out _).mono ?_;rintro e w3 ⟨rfl,k3⟩;have K3:=K2.trans k3))
    go_ret
    exact ⟨by rw [Hr.out];rfl,kW.trans K3⟩
   ·have q4:qde s g=true:=by rw [HB.out,q1,q2,q3];rfl
    have HA2:Hid ((s.ghosts.take (k+1)).all (qde s)=true):=qex _ Hg.out HA.out q4
    rw [q3] at C3
    clear q4
    go_wp2_with (first
     | (go_at_call 106;refine (C1.out _).mono ?_;rintro e w1 ⟨rfl,k1⟩;have K1:=(hK.alloc (.cells (ghc g) 87)).trans k1;have bx1:=BX w1 k1;clear k1)
     | (go_at_call 94;refine (C2.out _).mono ?_;rintro e w2 ⟨rfl,k2⟩;have K2:=K1.trans k2)
     | (go_at_call 105;refine (C3.out _).mono ?_;rintro e w3 ⟨rfl,k3⟩;have K3:=K2.trans k3))
    exact ⟨⟨k+1,by omega,by go_num,HA2,K3⟩,by simp only [intOf];omega⟩
  ·have hlt':decide ((k:Int) < (gn:Int))=false:=by simp;omega
   have hd:decide ((gn:Int) <= 12)=decide (gn <= 12):=by rw [Bool.eq_iff_iff];simp only [decide_eq_true_eq];omega
   have Hr:Hid (inv3 s=decide (gn <= 12)):=by
    have h1:=HA.out
    rw [List.take_of_length_le (by have:=Hn.out;omega)] at h1
    show _=_
    rw [HE.out,h1];rfl
   obtain ⟨z,hz⟩:∃ z,decide (gn <= 12)=z:=⟨_,rfl⟩
   rw [hz] at hd Hr
   clear hz HE HA hG
   go_wp2
   go_ret
   exact ⟨by rw [Hr.out,<- hd];rfl,kW.trans hK⟩
theorem qca {w:World} {base:Nat} {u:Value} {xs:List (Int × Int)} (h:OwnP w base u xs):Calls Tryz.prog 19 #[u] w fun e w'=>e = .returned (.bool (qaL xs)) /\ Keeps w w':=by
 obtain ⟨a,cap,rfl,l,h1,h2⟩:=h.slice qaq
 exact ql5 a cap xs w (by omega) (qhF l)
set_option maxHeartbeats 2000000 in
theorem qkd {w:World} {v:Sv} {s:Sy} (h:SysOn w v s) (hc:inv0 s=true) :
  Calls Tryz.prog 66 #[.agg (syc s v)] w fun e w'=>e = .returned (.bool (inv4 s)) /\ Keeps w w':=by
 obtain ⟨c,hcc,hc4⟩:∃ c:Nat,s.cpus=(c:Int) /\ c <= 4:=by
  unfold inv0 at hc
  simp only [Bool.and_eq_true,qas] at hc
  exact ⟨s.cpus.toNat,by omega,by omega⟩
 have Hcc:Hid (s.cpus=(c:Int)):=hcc
 clear hcc
 have kW:=blkK w (.cells (syc s v) 30)
 have hb:=blkR w (syc s v) 30
 have HS:Hid (SysOn (w.alloc (.cells (syc s v) 30)) v s):=h.keeps kW
 have HC:Hid (∀ (x:Int) w',Keeps (w.alloc (.cells (syc s v) 30)) w'->Calls Tryz.prog 16 #[.agg (syc s v),.int .i64 x] w' fun e w''=>∃ u,e = .returned u /\ OwnP w'' w'.heap.size u (qan s x) /\ Keeps w' w''):=fun x w' k=>qc4 w' v s x (HS.out.keeps k)
 have HE:Hid (inv4 s=(List.range c).all (fun c=>qaL (qan s (c:Int)))):=by show _=_;unfold inv4;rw [Hcc.out,Int.toNat_natCast]
 clear h HS hc
 go_enter Tryz.func66,Tryz.ntmps66
 go_wp2
 generalize w.alloc (.cells (syc s v) 30)=W at *
 go_loopw [6] (fun i wr=>∃ k:Nat,k <= c /\ i = .int .i64 k /\ Hid ((List.range k).all (fun c=>qaL (qan s (c:Int)))=true) /\ Keeps W wr) (fun i _=>c - (intOf i).toNat)
 case atStart=>exact ⟨0,Nat.zero_le _,rfl,by show _=_;simp,Keeps.refl _⟩
 case round =>
  obtain ⟨k,hk,rfl,HA,hK⟩:=hrel
  by_cases hlt:k < c
  ·have hlt':(k:Int) < (c:Int):=by omega
   have hltc:decide ((k:Int) < s.cpus)=true:=by have:=Hcc.out;simp;omega
   have SH:Hid (∀ w',Keeps W w'->Calls Tryz.prog 16 #[.agg (syc s v),.int .i64 (k:Int)] w' fun e w''=>∃ u,e = .returned u /\ OwnP w'' w'.heap.size u (qan s k) /\ Keeps w' w''):=fun w' h=>HC.out k w' h
   clear HC
   cases q:qaL (qan s k)
   ·have Hr:Hid (inv4 s=false):=by
     show _=_
     rw [HE.out,qc3 _ (k:=k) (x:=k) (by simp [hlt]) q]
    go_wp2_with (first
     | (go_at_call 16;refine (SH.out _ hK).mono ?_;rintro e w1 ⟨u,rfl,ou,k1⟩;have OU:Hid (OwnP w1 wr.heap.size u (qan s k)):=ou;clear ou)
     | (go_at_call 19;refine (qca OU.out).mono ?_;rintro e w2 ⟨rfl,k2⟩;rw [q]))
    go_ret
    exact ⟨by rw [Hr.out];rfl,kW.trans (hK.trans (k1.trans k2))⟩
   ·have HA2:Hid ((List.range (k+1)).all (fun c=>qaL (qan s (c:Int)))=true):=by
     show _=_
     rw [List.range_succ,List.all_append,HA.out]
     simp only [List.all_cons,List.all_nil,Bool.and_true,Bool.true_and]
     exact q
    go_wp2_with (first
     | (go_at_call 16;refine (SH.out _ hK).mono ?_;rintro e w1 ⟨u,rfl,ou,k1⟩;have OU:Hid (OwnP w1 wr.heap.size u (qan s k)):=ou;clear ou)
     | (go_at_call 19;refine (qca OU.out).mono ?_;rintro e w2 ⟨rfl,k2⟩;rw [q]))
    exact ⟨⟨k+1,by omega,by go_num,HA2,hK.trans (k1.trans k2)⟩,by simp only [intOf];omega⟩
  ·have hlt':decide ((k:Int) < s.cpus)=false:=by have:=Hcc.out;simp;omega
   have Hr:Hid (inv4 s=true):=by
    show _=_
    rw [HE.out,show c=k from by omega,HA.out]
   go_wp2
   go_ret
   exact ⟨by rw [Hr.out];rfl,kW.trans hK⟩
set_option maxHeartbeats 2000000 in
theorem qke {w:World} {v:Sv} {s:Sy} (h:SysOn w v s) :
  Calls Tryz.prog 67 #[.agg (syc s v)] w fun e w'=>e = .returned (.bool (inv5 s)) /\ Keeps w w':=by
 obtain ⟨vt,vl,vg,⟨fa,fn,fcap⟩,vr⟩:=v
 have hm1:fn <= 2000000:=by have h1:=h.size;have h2:s.floors.length=fn:=h.lay.fl;unfold qai at h1;omega
 have Hn:Hid (s.floors.length=fn):=h.lay.fl
 have kW:=blkK w (.cells (syc s ⟨vt,vl,vg,⟨fa,fn,fcap⟩,vr⟩) 30)
 have hb:=blkR w (syc s ⟨vt,vl,vg,⟨fa,fn,fcap⟩,vr⟩) 30
 have HS:Hid (SysOn (w.alloc (.cells (syc s ⟨vt,vl,vg,⟨fa,fn,fcap⟩,vr⟩) 30)) ⟨vt,vl,vg,⟨fa,fn,fcap⟩,vr⟩ s):=h.keeps kW
 have hF:Hid (Ns (w.alloc (.cells (syc s ⟨vt,vl,vg,⟨fa,fn,fcap⟩,vr⟩) 30)) fa s.floors):=HS.out.lay.f
 have HE:Hid (inv5 s=(s.floors.all (fun f=>inB f 0 100000000)&&((fn:Int)==s.cpus))):=by show _=_;unfold inv5;rw [Hn.out]
 clear h HS
 go_enter Tryz.func67,Tryz.ntmps67
 go_wp2
 generalize w.alloc (.cells (syc s ⟨vt,vl,vg,⟨fa,fn,fcap⟩,vr⟩) 30)=W at *
 go_loopw [8] (fun i wr=>∃ k:Nat,k <= fn /\ i = .int .i64 k /\ Hid ((s.floors.take k).all (fun f=>inB f 0 100000000)=true) /\ Keeps W wr) (fun i _=>fn - (intOf i).toNat)
 case atStart=>exact ⟨0,Nat.zero_le _,rfl,by show _=_;simp,Keeps.refl _⟩
 case round =>
  obtain ⟨k,hk,rfl,HA,hK⟩:=hrel
  by_cases hlt:k < fn
  ·obtain ⟨x,hx⟩:=qal (xs:=s.floors) (k:=k) (by rw [Hn.out];exact hlt)
   obtain ⟨b,off,rfl,r0⟩:=hF.out.at hx
   have hlt':(k:Int) < (fn:Int):=by omega
   have Hx:Hid (s.floors[k]?=some x):=hx
   clear hx hF
   cases q:inB x 0 100000000
   ·have Hr:Hid (inv5 s=false):=by show _=_;rw [HE.out,qc3 _ Hx.out q];rfl
    go_wp2_with (go_at_call 105;refine (qaN _ _ _ _).mono ?_;rintro e w' ⟨rfl,hw'⟩;have hw2:=hw'.symm;subst hw2;rw [q])
    go_ret
    exact ⟨by rw [Hr.out];rfl,kW.trans hK⟩
   ·have HA2:Hid ((s.floors.take (k+1)).all (fun f=>inB f 0 100000000)=true):=qex _ Hx.out HA.out q
    go_wp2_with (go_at_call 105;refine (qaN _ _ _ _).mono ?_;rintro e w' ⟨rfl,hw'⟩;have hw2:=hw'.symm;subst hw2;rw [q])
    exact ⟨⟨k+1,by omega,by go_num,HA2,hK⟩,by simp only [intOf];omega⟩
  ·have hlt':decide ((k:Int) < (fn:Int))=false:=by simp;omega
   have Hr:Hid (inv5 s=((fn:Int)==s.cpus)):=by
    have h1:=HA.out
    rw [List.take_of_length_le (by have:=Hn.out;omega)] at h1
    show _=_
    rw [HE.out,h1];rfl
   clear HE HA hF
   go_wp2
   go_ret
   exact ⟨by rw [Hr.out];rfl,kW.trans hK⟩
def qkf (r:Value) (b:Bool):Prop:=(b=true /\ r = .nilIface)∨(b=false /\ ∃ x:Int,r = .iface 60 (.agg #[.int .i64 x]))
theorem qkg (w:World):(Instr.index 122 (.agg #[.func (.func 62) #[] #[],.func (.func 63) #[] #[],.func (.func 64) #[] #[],.func (.func 65) #[] #[],.func (.func 66) #[] #[],.func (.func 67) #[] #[],.func (.func 68) #[] #[]]) (.int .i64 0)).run Tryz.prog w = .ok (.func (.func 62) #[] #[]) w:=by kernel_rfl
theorem qkh (w:World):(Instr.index 122 (.agg #[.func (.func 62) #[] #[],.func (.func 63) #[] #[],.func (.func 64) #[] #[],.func (.func 65) #[] #[],.func (.func 66) #[] #[],.func (.func 67) #[] #[],.func (.func 68) #[] #[]]) (.int .i64 1)).run Tryz.prog w = .ok (.func (.func 63) #[] #[]) w:=by kernel_rfl
theorem qki (w:World):(Instr.index 122 (.agg #[.func (.func 62) #[] #[],.func (.func 63) #[] #[],.func (.func 64) #[] #[],.func (.func 65) #[] #[],.func (.func 66) #[] #[],.func (.func 67) #[] #[],.func (.func 68) #[] #[]]) (.int .i64 2)).run Tryz.prog w = .ok (.func (.func 64) #[] #[]) w:=by kernel_rfl
theorem qkj (w:World):(Instr.index 122 (.agg #[.func (.func 62) #[] #[],.func (.func 63) #[] #[],.func (.func 64) #[] #[],.func (.func 65) #[] #[],.func (.func 66) #[] #[],.func (.func 67) #[] #[],.func (.func 68) #[] #[]]) (.int .i64 3)).run Tryz.prog w = .ok (.func (.func 65) #[] #[]) w:=by kernel_rfl
theorem qkk (w:World):(Instr.index 122 (.agg #[.func (.func 62) #[] #[],.func (.func 63) #[] #[],.func (.func 64) #[] #[],.func (.func 65) #[] #[],.func (.func 66) #[] #[],.func (.func 67) #[] #[],.func (.func 68) #[] #[]]) (.int .i64 4)).run Tryz.prog w = .ok (.func (.func 66) #[] #[]) w:=by kernel_rfl
theorem qkl (w:World):(Instr.index 122 (.agg #[.func (.func 62) #[] #[],.func (.func 63) #[] #[],.func (.func 64) #[] #[],.func (.func 65) #[] #[],.func (.func 66) #[] #[],.func (.func 67) #[] #[],.func (.func 68) #[] #[]]) (.int .i64 5)).run Tryz.prog w = .ok (.func (.func 67) #[] #[]) w:=by kernel_rfl
theorem qkm (w:World):(Instr.index 122 (.agg #[.func (.func 62) #[] #[],.func (.func 63) #[] #[],.func (.func 64) #[] #[],.func (.func 65) #[] #[],.func (.func 66) #[] #[],.func (.func 67) #[] #[],.func (.func 68) #[] #[]]) (.int .i64 6)).run Tryz.prog w = .ok (.func (.func 68) #[] #[]) w:=by kernel_rfl
attribute [local go_sem] qkg qkh qki qkj qkk qkl qkm
set_option maxHeartbeats 8000000 in
theorem qkn {w:World} {v:Sv} {s:Sy} (h:SysOn w v s) :
  Calls Tryz.prog 26 #[.agg (syc s v)] w fun e w'=>∃ r,e = .returned r /\ qkf r (qee s) /\ Keeps w w':=by
 have kW:=blkK w (.cells (syc s v) 30)
 have hb:=blkR w (syc s v) 30
 have HS:Hid (SysOn (w.alloc (.cells (syc s v) 30)) v s):=h.keeps kW
 have HE:Hid (qee s=(inv0 s&&(inv1 s&&(inv2 s&&(inv3 s&&(inv4 s&&(inv5 s&&inv6 s))))))):=rfl
 have C0:Hid (∀ w',Keeps (w.alloc (.cells (syc s v) 30)) w'->Calls Tryz.prog 62 #[.agg (syc s v)] w' fun e w''=>e = .returned (.bool (inv0 s)) /\ Keeps w' w''):=fun w' _=>qj7 s v w'
 have C1:Hid (∀ w',Keeps (w.alloc (.cells (syc s v) 30)) w'->Calls Tryz.prog 63 #[.agg (syc s v)] w' fun e w''=>e = .returned (.bool (inv1 s)) /\ Keeps w' w''):=fun w' k=>qj9 (HS.out.keeps k)
 have C2:Hid (∀ w',Keeps (w.alloc (.cells (syc s v) 30)) w'->Calls Tryz.prog 64 #[.agg (syc s v)] w' fun e w''=>e = .returned (.bool (inv2 s)) /\ Keeps w' w''):=fun w' k=>qkb (HS.out.keeps k)
 have C3:Hid (∀ w',Keeps (w.alloc (.cells (syc s v) 30)) w'->Calls Tryz.prog 65 #[.agg (syc s v)] w' fun e w''=>e = .returned (.bool (inv3 s)) /\ Keeps w' w''):=fun w' k=>qkc (HS.out.keeps k)
 have C4:Hid (∀ w',Keeps (w.alloc (.cells (syc s v) 30)) w'->inv0 s=true->Calls Tryz.prog 66 #[.agg (syc s v)] w' fun e w''=>e = .returned (.bool (inv4 s)) /\ Keeps w' w''):=fun w' k hc=>qkd (HS.out.keeps k) hc
 have C5:Hid (∀ w',Keeps (w.alloc (.cells (syc s v) 30)) w'->Calls Tryz.prog 67 #[.agg (syc s v)] w' fun e w''=>e = .returned (.bool (inv5 s)) /\ Keeps w' w''):=fun w' k=>qke (HS.out.keeps k)
 have C6:Hid (∀ w',Keeps (w.alloc (.cells (syc s v) 30)) w'->Calls Tryz.prog 68 #[.agg (syc s v)] w' fun e w''=>e = .returned (.bool (inv6 s)) /\ Keeps w' w''):=fun w' k=>qj8 (HS.out.keeps k)
 clear h HS
 obtain ⟨q0,hq0⟩:∃ q,inv0 s=q:=⟨_,rfl⟩
 obtain ⟨q1,hq1⟩:∃ q,inv1 s=q:=⟨_,rfl⟩
 obtain ⟨q2,hq2⟩:∃ q,inv2 s=q:=⟨_,rfl⟩
 obtain ⟨q3,hq3⟩:∃ q,inv3 s=q:=⟨_,rfl⟩
 obtain ⟨q4,hq4⟩:∃ q,inv4 s=q:=⟨_,rfl⟩
 obtain ⟨q5,hq5⟩:∃ q,inv5 s=q:=⟨_,rfl⟩
 obtain ⟨q6,hq6⟩:∃ q,inv6 s=q:=⟨_,rfl⟩
 rw [hq0] at C0 C4 HE
 rw [hq1] at C1 HE
 rw [hq2] at C2 HE
 rw [hq3] at C3 HE
 rw [hq4] at C4 HE
 rw [hq5] at C5 HE
 rw [hq6] at C6 HE
 clear hq0 hq1 hq2 hq3 hq4 hq5 hq6
 have kX:Keeps (w.alloc (.cells (syc s v) 30)) ((w.alloc (.cells (syc s v) 30)).alloc (.cells #[.func (.func 62) #[] #[],.func (.func 63) #[] #[],.func (.func 64) #[] #[],.func (.func 65) #[] #[],.func (.func 66) #[] #[],.func (.func 67) #[] #[],.func (.func 68) #[] #[]] 122)):=(Keeps.refl _).alloc _
 go_enter Tryz.func26,Tryz.ntmps26
 go_wp2
 have kWX:=kW.trans kX
 have HW:Hid (Keeps (w.alloc (.cells (syc s v) 30)) ((w.alloc (.cells (syc s v) 30)).alloc (.cells #[.func (.func 62) #[] #[],.func (.func 63) #[] #[],.func (.func 64) #[] #[],.func (.func 65) #[] #[],.func (.func 66) #[] #[],.func (.func 67) #[] #[],.func (.func 68) #[] #[]] 122))):=kX
 clear kX
 generalize (w.alloc (.cells (syc s v) 30)).alloc (.cells #[.func (.func 62) #[] #[],.func (.func 63) #[] #[],.func (.func 64) #[] #[],.func (.func 65) #[] #[],.func (.func 66) #[] #[],.func (.func 67) #[] #[],.func (.func 68) #[] #[]] 122)=Y at *
 generalize w.alloc (.cells (syc s v) 30)=W at *
 go_loopw [8] (fun i wr=>((i = .int .i64 0)∨(i = .int .i64 1 /\ q0=true)∨(i = .int .i64 2 /\ q0=true /\ q1=true)∨(i = .int .i64 3 /\ q0=true /\ q1=true /\ q2=true)∨(i = .int .i64 4 /\ q0=true /\ q1=true /\ q2=true /\ q3=true)∨(i = .int .i64 5 /\ q0=true /\ q1=true /\ q2=true /\ q3=true /\ q4=true)∨(i = .int .i64 6 /\ q0=true /\ q1=true /\ q2=true /\ q3=true /\ q4=true /\ q5=true)∨(i = .int .i64 7 /\ q0=true /\ q1=true /\ q2=true /\ q3=true /\ q4=true /\ q5=true /\ q6=true)) /\ Keeps W wr) (fun i _=>7 - (intOf i).toNat)
 case atStart=>exact ⟨.inl rfl,HW.out⟩
 case round =>
  obtain ⟨hi,hK⟩:=hrel
  rcases hi with rfl | ⟨rfl,rfl⟩ | ⟨rfl,rfl,rfl⟩ | ⟨rfl,rfl,rfl,rfl⟩ | ⟨rfl,rfl,rfl,rfl,rfl⟩ | ⟨rfl,rfl,rfl,rfl,rfl,rfl⟩ | ⟨rfl,rfl,rfl,rfl,rfl,rfl,rfl⟩ | ⟨rfl,rfl,rfl,rfl,rfl,rfl,rfl,rfl⟩
  ·cases q0
   ·go_wp2_with (go_at_call 62;refine (C0.out _ hK).mono ?_;rintro e w1 ⟨rfl,k1⟩)
    go_ret
    exact ⟨_,rfl,.inr ⟨by rw [HE.out];rfl,_,rfl⟩,kW.trans (hK.trans k1)⟩
   ·go_wp2_with (go_at_call 62;refine (C0.out _ hK).mono ?_;rintro e w1 ⟨rfl,k1⟩)
    exact ⟨⟨by simp,hK.trans k1⟩,by simp [intOf]⟩
  ·cases q1
   ·go_wp2_with (go_at_call 63;refine (C1.out _ hK).mono ?_;rintro e w1 ⟨rfl,k1⟩)
    go_ret
    exact ⟨_,rfl,.inr ⟨by rw [HE.out];rfl,_,rfl⟩,kW.trans (hK.trans k1)⟩
   ·go_wp2_with (go_at_call 63;refine (C1.out _ hK).mono ?_;rintro e w1 ⟨rfl,k1⟩)
    exact ⟨⟨by simp,hK.trans k1⟩,by simp [intOf]⟩
  ·cases q2
   ·go_wp2_with (go_at_call 64;refine (C2.out _ hK).mono ?_;rintro e w1 ⟨rfl,k1⟩)
    go_ret
    exact ⟨_,rfl,.inr ⟨by rw [HE.out];rfl,_,rfl⟩,kW.trans (hK.trans k1)⟩
   ·go_wp2_with (go_at_call 64;refine (C2.out _ hK).mono ?_;rintro e w1 ⟨rfl,k1⟩)
    exact ⟨⟨by simp,hK.trans k1⟩,by simp [intOf]⟩
  ·cases q3
   ·go_wp2_with (go_at_call 65;refine (C3.out _ hK).mono ?_;rintro e w1 ⟨rfl,k1⟩)
    go_ret
    exact ⟨_,rfl,.inr ⟨by rw [HE.out];rfl,_,rfl⟩,kW.trans (hK.trans k1)⟩
   ·go_wp2_with (go_at_call 65;refine (C3.out _ hK).mono ?_;rintro e w1 ⟨rfl,k1⟩)
    exact ⟨⟨by simp,hK.trans k1⟩,by simp [intOf]⟩
  ·cases q4
   ·go_wp2_with (go_at_call 66;refine (C4.out _ hK rfl).mono ?_;rintro e w1 ⟨rfl,k1⟩)
    go_ret
    exact ⟨_,rfl,.inr ⟨by rw [HE.out];rfl,_,rfl⟩,kW.trans (hK.trans k1)⟩
   ·go_wp2_with (go_at_call 66;refine (C4.out _ hK rfl).mono ?_;rintro e w1 ⟨rfl,k1⟩)
    exact ⟨⟨by simp,hK.trans k1⟩,by simp [intOf]⟩
  ·cases q5
   ·go_wp2_with (go_at_call 67;refine (C5.out _ hK).mono ?_;rintro e w1 ⟨rfl,k1⟩)
    go_ret
    exact ⟨_,rfl,.inr ⟨by rw [HE.out];rfl,_,rfl⟩,kW.trans (hK.trans k1)⟩
   ·go_wp2_with (go_at_call 67;refine (C5.out _ hK).mono ?_;rintro e w1 ⟨rfl,k1⟩)
    exact ⟨⟨by simp,hK.trans k1⟩,by simp [intOf]⟩
  ·cases q6
   ·go_wp2_with (go_at_call 68;refine (C6.out _ hK).mono ?_;rintro e w1 ⟨rfl,k1⟩)
    go_ret
    exact ⟨_,rfl,.inr ⟨by rw [HE.out];rfl,_,rfl⟩,kW.trans (hK.trans k1)⟩
   ·go_wp2_with (go_at_call 68;refine (C6.out _ hK).mono ?_;rintro e w1 ⟨rfl,k1⟩)
    exact ⟨⟨by simp,hK.trans k1⟩,by simp [intOf]⟩
  ·go_wp2
   go_ret
   exact ⟨_,rfl,.inl ⟨by rw [HE.out];rfl,rfl⟩,kW.trans hK⟩
set_option maxHeartbeats 2000000 in
theorem qgC:qme:=by
 intro w v s hg h
 have HI:Hid (qee s=sysB s):=qma s
 have kW:Keeps w ((w.alloc (.cells (syc s v) 30)).alloc (.cells #[.int .i64 0] 60)):=((Keeps.refl w).alloc _).alloc _
 have hb:∀ w',Keeps ((w.alloc (.cells (syc s v) 30)).alloc (.cells #[.int .i64 0] 60)) w'->∀ j,w'.cell? ⟨w.heap.size,j,none⟩=(syc s v)[j]?:=fun w' k=>(((Blk.new w (syc s v) 30).alloc _).keeps k).cells
 have B1:Hid (Blk ((w.alloc (.cells (syc s v) 30)).alloc (.cells #[.int .i64 0] 60)) (w.heap.size+1) #[.int .i64 0]):=by
  have:=Blk.new (w.alloc (.cells (syc s v) 30)) #[.int .i64 0] 60
  show Blk _ _ _
  simpa using this
 have HS:Hid (SysOn ((w.alloc (.cells (syc s v) 30)).alloc (.cells #[.int .i64 0] 60)) v s):=h.keeps kW
 have HG:Hid (GlobE ((w.alloc (.cells (syc s v) 30)).alloc (.cells #[.int .i64 0] 60))):=hg.keeps kW
 clear h hg
 go_enter Tryz.func8,Tryz.ntmps8
 go_wp2_with fail
 generalize (w.alloc (.cells (syc s v) 30)).alloc (.cells #[.int .i64 0] 60)=W at *
 refine (qkn HS.out).mono ?_
 rintro e w1 ⟨r,rfl,hr,k1⟩
 rw [HI.out] at hr
 rcases hr with ⟨hr,rfl⟩ | ⟨hr,x,rfl⟩
 ·have Hr:Hid (sysB s=true):=hr
  clear hr
  go_wp2_with (go_at_call 25;refine (qiK _ _).mono ?_;rintro e w2 ⟨rfl,hw2⟩;have hw3:=hw2.symm;subst hw3)
  go_ret
  exact ⟨by rw [Hr.out];rfl,kW.trans k1⟩
 ·have Hr:Hid (sysB s=false):=hr
  have B2:=B1.out.keeps k1
  have hc:w1.cell? ⟨w.heap.size+1,0,none⟩=some (.int .i64 0):=by rw [B2.cells 0];rfl
  have hz:w1.frozen? ⟨w.heap.size+1,0,none⟩=false:=B2.frozens 0
  have HA:Hid (Calls Tryz.prog 25 #[.iface 60 (.agg #[.int .i64 x]),.iface 65 (.pointer (some ⟨w.heap.size+1,0,none⟩))] w1 fun ev w'=>ev = .returned (.bool true) /\ Keeps w w'):=(qi6 x (w.heap.size+1) _ w1 (HG.out.keeps k1) hc hz).mono fun ev w' ⟨h1,h2⟩=>⟨h1,by
   rw [h2]
   exact ((((((kW.trans k1).alloc _).alloc _).alloc _).alloc _).setCell (by show w.heap.size <= w.heap.size+1;omega) _)⟩
  clear hr B2 hc hz
  go_wp2_with (go_at_call 25;refine HA.out.mono ?_;rintro e w2 ⟨rfl,k2⟩)
  go_ret
  exact ⟨by rw [Hr.out];rfl,k2⟩
end Go.Proofs.YteagpjlgjfaclaaGreatDoor
