/-
  The program's judges, one by one: each answers as the model
-/
import Derived.Test.YthpdlbcdbncnhaaGreatDoorGJudge1
import Derived.Test.YthpdlbcdbncnhaaGreatDoorImplSysOk
import Derived.Test.YthpdlbcdbncnhaaGreatDoorGIpick2
import Derived.Test.YthpdlbcdbncnhaaGreatDoorGIfair1
import Derived.Deep.RegionHeld3
import Derived.Test.YthpdlbcdbncnhaaGreatDoorGBase2
import Derived.Test.YthpdlbcdbncnhaaGreatDoorGLock1
import Derived.RegionTactic
import Derived.BigRegion
import Derived.Maps.RangeWalk
namespace Go.Proofs.YthpdlbcdbncnhaaGreatDoor
set_option maxRecDepth 100000
open Go.RowKit
attribute [local go_sem] Keeps.refl Keeps.alloc Keeps.drew Keeps.drewN
set_option maxHeartbeats 4000000 in
theorem qhQ {w:World} {v:Sv} {s:Sy} (h:SysOn w v s) (R:SysR s) :
  Calls Tryz.prog 59 #[.agg (syc s v)] w fun e w'=>e = .returned (.bool (qaJ s)) /\ Keeps w w':=by
 obtain ⟨vt,vl,vg,vf,⟨ra,rn,rcap⟩⟩:=v
 have hm:rn <= 2000000:=by have h1:=h.size;have h2:s.trace.length=rn:=h.lay.rl;unfold qaj at h1;omega
 have Hn:Hid (s.trace.length=rn):=h.lay.rl
 have kW:=blkK w (.cells (syc s ⟨vt,vl,vg,vf,⟨ra,rn,rcap⟩⟩) 37)
 have hb:=blkR w (syc s ⟨vt,vl,vg,vf,⟨ra,rn,rcap⟩⟩) 37
 have hs1:Hid (Rs (w.alloc (.cells (syc s ⟨vt,vl,vg,vf,⟨ra,rn,rcap⟩⟩) 37)) ra s.trace):=(h.keeps kW).lay.r
 have hcp:1 <= s.cpus:=R.cpus.1
 have hc0:s.cpus≠0:=by omega
 have HM:Hid (∀ k:Nat,(k:Int) % s.cpus=((k % s.cpus.toNat:Nat):Int)):=qhL hcp
 have HE:Hid (qaJ s=(((rn:Int) % s.cpus==0)&&(List.range rn).all fun i=>qb0 s.cpus.toNat i (s.trace.getD i ⟨0,0,0⟩))):=by
  have e:((rn:Int) % s.cpus==0)=(rn % s.cpus.toNat==0):=by
   rw [HM.out,Bool.eq_iff_iff]
   simp only [beq_iff_eq]
   omega
  show _=_
  unfold qaJ
  rw [qbh.2 R,Hn.out,e];rfl
 clear h R
 go_enter Tryz.func59,Tryz.ntmps59
 go_wp2
 generalize w.alloc (.cells (syc s ⟨vt,vl,vg,vf,⟨ra,rn,rcap⟩⟩) 37)=W at *
 go_loopw [8] (fun i wr=>∃ k:Nat,k <= rn /\ i = .int .i64 k /\ Hid (((List.range k).all fun i=>qb0 s.cpus.toNat i (s.trace.getD i ⟨0,0,0⟩))=true) /\ Keeps W wr) (fun i _=>rn - (intOf i).toNat)
 case atStart=>exact ⟨0,Nat.zero_le _,rfl,by show _=_;simp,Keeps.refl _⟩
 case round =>
  obtain ⟨k,hk,rfl,HA,hK⟩:=hrel
  by_cases hlt:k < rn
  ·obtain ⟨t,ht⟩:=qai (xs:=s.trace) (k:=k) (by rw [Hn.out];exact hlt)
   obtain ⟨b,off,rfl,r0,r1⟩:=hs1.out.at ht (by omega)
   have hq0:(k:Int).tmod s.cpus=(k:Int) % s.cpus:=Int.tmod_eq_emod_of_nonneg (by omega)
   have hlt':(k:Int) < (rn:Int):=by omega
   have Hst:Hid (qb0 s.cpus.toNat k (s.trace.getD k ⟨0,0,0⟩)=(t.cpu==(k:Int) % s.cpus&&((t.ctx==0)==(t.exe==0)))):=by show _=_;rw [qbM ht,HM.out];rfl
   clear ht hs1
   go_upto_region 4 with fail
   have kX:Keeps W (wr.alloc (.cells (tnc t) 85)):=hK.alloc _
   have hX:=blkR wr (tnc t) 85
   have hb2:∀ w',Keeps (wr.alloc (.cells (tnc t) 85)) w'->∀ j,w'.cell? ⟨w.heap.size,j,none⟩=(syc s ⟨vt,vl,vg,vf,⟨some ⟨b,off,none⟩,rn,rcap⟩⟩)[j]?:=fun w' h=>hb w' (kX.trans h)
   change Code.wp _ _ _ _ (wr.alloc (.cells (tnc t) 85))
   clear r0 r1 hb
   generalize wr.alloc (.cells (tnc t) 85)=X at *
   cases q1:(t.cpu != (k:Int) % s.cpus)
   rotate_left
   ·have Hr:Hid (qaJ s=false):=by
     have e:qb0 s.cpus.toNat k (s.trace.getD k ⟨0,0,0⟩)=false:=by
      rw [Hst.out]
      have:(t.cpu==(k:Int) % s.cpus)=false:=by simpa [bne] using q1
      rw [this];rfl
     show _=_
     rw [HE.out,qe4 hlt e,Bool.and_false]
    refine wp_region_held_drew (S:=(fun w'=>Keeps X w')) (by kernel_rfl) ?_ (fun hHeld => ?_)
    ·exact (Keeps.refl X).drew
    refine Plan.go [0,1,2,3,4,5,6,7] ?_
    iterate 8 (refine qac (by simp only [qab];rfl) (by kernel_rfl) (by exact fun _ _ _ h=>h) (by rfl) (by assumption) (fun w _=>by go_simp;try (with_reducible rfl)) ?_;try simp only [qaa])
    refine Plan.nil ?_
    refine Plan.go [8,9,10,11,12,13,14] ?_
    iterate 7 (refine qaq (by simp only [qab];rfl) (by kernel_rfl) (by exact fun _ _ _ h=>h) (by rfl) (by assumption) ?_;try simp only [qaa])
    refine Plan.nil ?_
    refine qan 15 (v := ?_) (by simp only [qab];rfl) (by kernel_rfl) (by exact fun _ _ _ h=>h) (by rfl) (by assumption) ?_ ?_
    rotate_left
    ·(intro w _;go_simp;try (with_reducible rfl))
    try simp only [qaa]
    refine wpAnyH_done (by kernel_rfl) ?_ _
    go_wp2
    go_ret
    exact ⟨by rw [Hr.out];rfl,kW.trans kX.drew⟩
   have e1:(t.cpu==(k:Int) % s.cpus)=true:=by simpa [bne] using q1
   cases q2:(!((t.ctx==0)==(t.exe==0)))
   ·have HA2:Hid (((List.range (k+1)).all fun i=>qb0 s.cpus.toNat i (s.trace.getD i ⟨0,0,0⟩))=true):=qhM HA.out (by
     rw [Hst.out,e1]
     simpa using q2)
    clear Hst HE e1
    refine wp_region_held_drew (S:=(fun w'=>Keeps X w')) (by kernel_rfl) ?_ (fun hHeld => ?_)
    ·exact (Keeps.refl X).drew
    refine Plan.go [0,1,2,3,4,5,6,7,8,9,10,11,12,13,14,15] ?_
    iterate 16 (refine qac (by simp only [qab];rfl) (by kernel_rfl) (by exact fun _ _ _ h=>h) (by rfl) (by assumption) (fun w _=>by go_simp;try (with_reducible rfl)) ?_;try simp only [qaa])
    refine Plan.nil ?_
    refine wpAnyH_done (by kernel_rfl) ?_ _
    go_wp2
    exact ⟨⟨k+1,by omega,by go_num,HA2,kX.drew⟩,by simp only [intOf];omega⟩
   ·have Hr:Hid (qaJ s=false):=by
     have e:qb0 s.cpus.toNat k (s.trace.getD k ⟨0,0,0⟩)=false:=by
      rw [Hst.out,e1]
      simpa using q2
     show _=_
     rw [HE.out,qe4 hlt e,Bool.and_false]
    clear Hst e1
    refine wp_region_held_drew (S:=(fun w'=>Keeps X w')) (by kernel_rfl) ?_ (fun hHeld => ?_)
    ·exact (Keeps.refl X).drew
    refine Plan.go [0,1,2,3,4,5,6,7,8,9,10,11,12,13,14,15] ?_
    iterate 16 (refine qac (by simp only [qab];rfl) (by kernel_rfl) (by exact fun _ _ _ h=>h) (by rfl) (by assumption) (fun w _=>by go_simp;try (with_reducible rfl)) ?_;try simp only [qaa])
    refine Plan.nil ?_
    refine wpAnyH_done (by kernel_rfl) ?_ _
    go_wp2
    go_ret
    exact ⟨by rw [Hr.out];rfl,kW.trans kX.drew⟩
  ·have hlt':decide ((k:Int) < (rn:Int))=false:=by simp;omega
   have Hr:Hid (qaJ s=((rn:Int) % s.cpus==0)):=by
    show _=_
    rw [HE.out,show rn=k from by omega,HA.out,Bool.and_true]
   clear HE HA hs1 HM
   go_wp2
   go_ret
   exact ⟨by rw [Hr.out];rfl,kW.trans hK⟩
theorem qhR {w:World} {v:Sv} {s:Sy} :
  Calls Tryz.prog 60 #[.agg (syc s v)] w fun e w'=>e = .returned (.bool (s.missed==0)) /\ Keeps w w':=by
 go_enter Tryz.func60,Tryz.ntmps60
 go_wp2
 go_ret
 exact ⟨rfl,(Keeps.refl w).alloc _⟩
theorem SysR.floorOf {s:Sy} (R:SysR s) {t:Tsk} (ht:t∈s.tasks):qbu s t.cpu=s.floors.getD t.cpu.toNat 0 /\ 0 <= qbu s t.cpu /\ qbu s t.cpu <= 100000000:=by
 have h1:=R.onCpus t ht
 have e:qbu s t.cpu=s.floors.getD t.cpu.toNat 0:=by
  unfold qbu
  rw [show inB t.cpu 0 ((s.floors.length:Int) - 1)=true from qap.2 ⟨h1.1,by omega⟩,if_pos rfl]
 obtain ⟨f,hf⟩:=qai (xs:=s.floors) (k:=t.cpu.toNat) (by omega)
 have h2:=R.floorIn hf
 rw [e,qbM hf]
 exact ⟨rfl,h2⟩
set_option maxHeartbeats 4000000 in
theorem qhS {w:World} {v:Sv} {s:Sy} (h:SysOn w v s) (R:SysR s) :
  Calls Tryz.prog 61 #[.agg (syc s v)] w fun e w'=>e = .returned (.bool (qa0 s)) /\ Keeps w w':=by
 obtain ⟨⟨ta,tn,tcap⟩,vl,vg,vf,vr⟩:=v
 have hm:tn <= 2000000:=by have h1:=h.size;have h2:s.tasks.length=tn:=h.lay.tl;unfold qaj at h1;omega
 have Hn:Hid (s.tasks.length=tn):=h.lay.tl
 have kW:=blkK w (.cells (syc s ⟨⟨ta,tn,tcap⟩,vl,vg,vf,vr⟩) 37)
 have hb:=blkR w (syc s ⟨⟨ta,tn,tcap⟩,vl,vg,vf,vr⟩) 37
 have hS:Hid (SysOn (w.alloc (.cells (syc s ⟨⟨ta,tn,tcap⟩,vl,vg,vf,vr⟩) 37)) ⟨⟨ta,tn,tcap⟩,vl,vg,vf,vr⟩ s):=h.keeps kW
 have hs1:Hid (Ts (w.alloc (.cells (syc s ⟨⟨ta,tn,tcap⟩,vl,vg,vf,vr⟩) 37)) ta s.tasks):=hS.out.lay.t
 have HR:Hid (SysR s):=R
 have HE:Hid (qa0 s=s.tasks.all (qbQ s)):=by show _=_;unfold qa0;rw [qbh.2 R];rfl
 clear h R
 go_enter Tryz.func61,Tryz.ntmps61
 go_wp2
 generalize w.alloc (.cells (syc s ⟨⟨ta,tn,tcap⟩,vl,vg,vf,vr⟩) 37)=W at *
 go_loopw [9] (fun i wr=>∃ k:Nat,k <= tn /\ i = .int .i64 k /\ Hid ((s.tasks.take k).all (qbQ s)=true) /\ Keeps W wr) (fun i _=>tn - (intOf i).toNat)
 case atStart=>exact ⟨0,Nat.zero_le _,rfl,by show _=_;simp,Keeps.refl _⟩
 case round =>
  obtain ⟨k,hk,rfl,HA,hK⟩:=hrel
  by_cases hlt:k < tn
  ·obtain ⟨t,ht⟩:=qai (xs:=s.tasks) (k:=k) (by rw [Hn.out];exact hlt)
   obtain ⟨b,off,rfl,r0,r1⟩:=hs1.out.at ht (by omega)
   have hlt':(k:Int) < (tn:Int):=by omega
   obtain ⟨hf1,hf2,hf3⟩:=HR.out.floorOf (List.mem_of_getElem? ht)
   have hfb:qaC t=(t.cls==3):=by unfold qaC;rw [qct HR.out.tasks ht,Bool.true_and]
   obtain ⟨f,Hf⟩:∃ f,Hid (qbu s t.cpu=f):=⟨_,rfl⟩
   have Hok:Hid (qbQ s t=(!(t.cls==3)||(t.idle||inB t.v f (f+48)))):=by
    have e:inB (t.v - f) 0 48=inB t.v f (f+48):=by
     rw [Bool.eq_iff_iff,qap,qap]
     omega
    show _=_
    unfold qbQ
    rw [<- hf1,Hf.out,e]
   rw [Hf.out] at hf2 hf3
   have e2:IntKind.i64.wrap (f+48)=f+48:=Go.IntWalk.i64_in _ (by omega)
   have CF:Hid (∀ w',Keeps W w'->Calls Tryz.prog 102 #[.agg (syc s ⟨⟨some ⟨b,off,none⟩,tn,tcap⟩,vl,vg,vf,vr⟩),.int .i64 t.cpu] w' fun e w''=>e = .returned (.int .i64 f) /\ Keeps w' w''):=fun w' h=>by
    have:=qos w' _ s t.cpu (hS.out.keeps h)
    rw [Hf.out] at this
    exact this
   have CI:Hid (∀ w',Calls Tryz.prog 103 #[tk t] w' fun e w''=>e = .returned (.bool (t.cls==3)) /\ Keeps w' w''):=fun w'=>by
    have:=qe1 t w'
    rw [hfb] at this
    exact this
   have Ht:Hid (s.tasks[k]?=some t):=ht
   clear ht hs1 Hf hf1 hfb
   have kX:Keeps W (wr.alloc (.cells (tc t) 47)):=hK.alloc _
   have hX:=blkR wr (tc t) 47
   go_wp2_with fail
   change Calls _ _ _ (wr.alloc (.cells (tc t) 47)) _
   clear r0 r1
   generalize wr.alloc (.cells (tc t) 47)=X at *
   refine (CF.out X kX).mono ?_
   rintro e w2 ⟨rfl,k2⟩
   have hX2:∀ w',Keeps w2 w'->∀ j,w'.cell? ⟨wr.heap.size,j,none⟩=(tc t)[j]?:=fun w' h=>hX w' (k2.trans h)
   have K2:Keeps W w2:=kX.trans k2
   clear CF hX
   go_wp2_with fail
   refine (CI.out w2).mono ?_
   rintro e w3 ⟨rfl,k3⟩
   have hX3:∀ w',Keeps w3 w'->∀ j,w'.cell? ⟨wr.heap.size,j,none⟩=(tc t)[j]?:=fun w' h=>hX2 w' (k3.trans h)
   have K3:Keeps W w3:=K2.trans k3
   clear CI hX2 k2 k3 K2
   cases q1:(t.cls==3)
   ·have HA2:Hid ((s.tasks.take (k+1)).all (qbQ s)=true):=qdS _ Ht.out HA.out (by rw [Hok.out];simp [q1])
    clear Hok HE Ht
    go_wp2
    exact ⟨⟨k+1,by omega,by go_num,HA2,K3⟩,by simp only [intOf];omega⟩
   cases q2:t.idle
   rotate_left
   ·have HA2:Hid ((s.tasks.take (k+1)).all (qbQ s)=true):=qdS _ Ht.out HA.out (by rw [Hok.out];simp [q2])
    clear Hok HE Ht
    go_wp2
    exact ⟨⟨k+1,by omega,by go_num,HA2,K3⟩,by simp only [intOf];omega⟩
   cases q3:inB t.v f (f+48)
   ·have Hr:Hid (qa0 s=false):=by show _=_;rw [HE.out,qdg _ Ht.out (by rw [Hok.out];simp [q1,q2,q3])]
    clear Hok Ht
    go_wp2_with (go_at_call 104;refine (qaI _ _ _ _).mono ?_;rintro e w' ⟨rfl,hw'⟩;have hw2:=hw'.symm;subst hw2;rw [q3])
    go_ret
    exact ⟨by rw [Hr.out];rfl,kW.trans K3⟩
   ·have HA2:Hid ((s.tasks.take (k+1)).all (qbQ s)=true):=qdS _ Ht.out HA.out (by rw [Hok.out];simp [q3])
    clear Hok HE Ht
    go_wp2_with (go_at_call 104;refine (qaI _ _ _ _).mono ?_;rintro e w' ⟨rfl,hw'⟩;have hw2:=hw'.symm;subst hw2;rw [q3])
    exact ⟨⟨k+1,by omega,by go_num,HA2,K3⟩,by simp only [intOf];omega⟩
  ·have hlt':decide ((k:Int) < (tn:Int))=false:=by simp;omega
   have Hr:Hid (qa0 s=true):=by
    have h1:=HA.out
    rw [List.take_of_length_le (by have:=Hn.out;omega)] at h1
    show _=_
    rw [HE.out,h1]
   go_wp2
   go_ret
   exact ⟨by rw [Hr.out];rfl,kW.trans hK⟩
theorem SysR.both {s:Sy} (R:SysR s):qaV s.tasks s.locks=true:=by
 have h:=R.locks
 unfold qbo at h
 simp only [Bool.and_eq_true] at h
 unfold qaV
 rw [R.tasks,h.2.1];rfl
theorem SysR.noZero {s:Sy} (R:SysR s):qag s.tasks 0=false:=by
 cases h:qag s.tasks 0
 ·rfl
 ·obtain ⟨k,t,-,ht,e⟩:=qbV.1 h
  have:=qct R.tasks ht
  unfold qae at this
  simp only [Bool.and_eq_true,qap] at this
  have:=this.1.1.1.1
  omega
theorem SysR.atPick {s:Sy} (R:SysR s) (c:Int):decide (qar s.tasks (qa7 s.tasks s.locks c) < 0)=decide (qaz s.tasks s.locks c < 0) /\ (0 <= qaz s.tasks s.locks c->qar s.tasks (qa7 s.tasks s.locks c)=qaz s.tasks s.locks c):=by
 have hl:=qdQ s.tasks (qbU s.tasks s.locks c) s.tasks.length
 have hb:=R.both
 have e1:qa7 s.tasks s.locks c=noAt s.tasks (qaz s.tasks s.locks c):=by unfold qa7;rw [hb];rfl
 by_cases hp:qaz s.tasks s.locks c < 0
 ·have h0:qa7 s.tasks s.locks c=0:=by rw [e1];unfold noAt;rw [if_pos hp]
  have h1:=R.noZero
  unfold qag at h1
  rw [h0]
  refine ⟨?_,fun h=>by omega⟩
  have h2:qar s.tasks 0 < 0:=by simpa using h1
  rw [decide_eq_true hp,decide_eq_true h2]
 ·obtain ⟨j,hj⟩:∃ j:Nat,qaz s.tasks s.locks c=(j:Int):=⟨(qaz s.tasks s.locks c).toNat,by omega⟩
  have hjl:j < s.tasks.length:=by
   have:(topN s.tasks (qbU s.tasks s.locks c) s.tasks.length:Int) < s.tasks.length:=hl.2
   have e:qaz s.tasks s.locks c=topN s.tasks (qbU s.tasks s.locks c) s.tasks.length:=rfl
   omega
  obtain ⟨u,hu⟩:=qai hjl
  have e2:qa7 s.tasks s.locks c=u.no:=by rw [e1];unfold noAt;rw [if_neg hp,hj,Int.toNat_natCast,qce hu]
  have h3:=(qhy R.tasks hu).1
  obtain ⟨k,t,ek,ht,en⟩:=qbV.1 h3
  have hkj:k=j:=qhI R.tasks ht hu en
  subst hkj
  rw [e2,ek,hj]
  exact ⟨rfl,fun _=>rfl⟩
set_option maxHeartbeats 4000000 in
theorem qmp {w:World} {v:Sv} {s:Sy} (h:SysOn w v s) (R:SysR s) (cpu:Int) :
  Calls Tryz.prog 105 #[.agg (syc s v),.int .i64 cpu] w fun e w'=>e = .returned (.bool true) /\ Keeps w w':=by
 obtain ⟨⟨ta,tn,tcap⟩,vl,vg,vf,vr⟩:=v
 have hm:tn <= 2000000:=by have h1:=h.size;have h2:s.tasks.length=tn:=h.lay.tl;unfold qaj at h1;omega
 have Hn:Hid (s.tasks.length=tn):=h.lay.tl
 have HN:Hid (tn <= tcap):=h.tc.le
 have kW:=blkK w (.cells (syc s ⟨⟨ta,tn,tcap⟩,vl,vg,vf,vr⟩) 37)
 have hb:=blkR w (syc s ⟨⟨ta,tn,tcap⟩,vl,vg,vf,vr⟩) 37
 have hTw:Hid (Two (w.alloc (.cells (syc s ⟨⟨ta,tn,tcap⟩,vl,vg,vf,vr⟩) 37)) ta tn tcap s.tasks vl.a vl.n vl.cap s.locks):=⟨(h.keeps kW).onT,(h.keeps kW).onL⟩
 have hs1:Hid (Ts (w.alloc (.cells (syc s ⟨⟨ta,tn,tcap⟩,vl,vg,vf,vr⟩) 37)) ta s.tasks):=(h.keeps kW).lay.t
 have HR:Hid (SysR s):=R
 obtain ⟨no,Hno⟩:∃ x,Hid (qa7 s.tasks s.locks cpu=x):=⟨_,rfl⟩
 obtain ⟨x,Hx⟩:∃ x,Hid (qaA s.tasks s.locks cpu=x):=⟨_,rfl⟩
 obtain ⟨A,HA⟩:∃ A,Hid (qar s.tasks no=A):=⟨_,rfl⟩
 have HAp:Hid (decide (A < 0)=decide (qaz s.tasks s.locks cpu < 0) /\ (0 <= qaz s.tasks s.locks cpu->A=qaz s.tasks s.locks cpu)):=by
  have:=R.atPick cpu
  rw [Hno.out,HA.out] at this
  exact this
 have PK:Hid (∀ w',Keeps (w.alloc (.cells (syc s ⟨⟨ta,tn,tcap⟩,vl,vg,vf,vr⟩) 37)) w'->Calls Tryz.prog 106 #[.slice ta tn tcap,.slice vl.a vl.n vl.cap,.int .i64 cpu] w' fun e w''=>e = .returned (.tuple #[.int .i64 no,.int .i64 x]) /\ Keeps w' w''):=fun w' hk=>by
  have:=qhB w' ta tn tcap s.tasks vl.a vl.n vl.cap s.locks cpu HN.out (hTw.out.keeps hk)
  rw [Hno.out,Hx.out] at this
  exact this
 clear h R Hno Hx
 go_enter Tryz.func105,Tryz.ntmps105
 go_wp2_with fail
 generalize w.alloc (.cells (syc s ⟨⟨ta,tn,tcap⟩,vl,vg,vf,vr⟩) 37)=W at *
 refine (PK.out W (Keeps.refl _)).mono ?_
 rintro e w1 ⟨rfl,k1⟩
 clear PK
 go_wp2_with fail
 refine (hTw.out.t.pTaskAt no HA.out k1).mono ?_
 rintro e w2 ⟨rfl,k2⟩
 have K2:=k1.trans k2
 clear k1 k2 HA
 go_wp2_with fail
 go_loopw [27] (fun i wr=>∃ k:Nat,k <= tn /\ i = .int .i64 k /\ Keeps W wr) (fun i _=>tn - (intOf i).toNat)
 case atStart=>exact ⟨0,Nat.zero_le _,rfl,K2⟩
 case round =>
  obtain ⟨k,hk,rfl,hK⟩:=hrel
  clear K2
  by_cases hlt:k < tn
  ·obtain ⟨t,ht⟩:=qai (xs:=s.tasks) (k:=k) (by rw [Hn.out];exact hlt)
   obtain ⟨b,off,rfl,r0,r1⟩:=hs1.out.at ht (by omega)
   have hlt':(k:Int) < (tn:Int):=by omega
   have Hok:Hid (qdt s t=true):=List.all_eq_true.1 (qd1 s) t (List.mem_of_getElem? ht)
   clear ht
   go_upto_region 6 with fail
   have kX:Keeps W (wr.alloc (.cells (tc t) 47)):=hK.alloc _
   have hX:=blkR wr (tc t) 47
   have hTX:Hid (Two (wr.alloc (.cells (tc t) 47)) (some ⟨b,off,none⟩) tn tcap s.tasks vl.a vl.n vl.cap s.locks):=hTw.out.keeps kX
   have hb2:∀ w',Keeps (wr.alloc (.cells (tc t) 47)) w'->∀ j,w'.cell? ⟨w.heap.size,j,none⟩=(syc s ⟨⟨some ⟨b,off,none⟩,tn,tcap⟩,vl,vg,vf,vr⟩)[j]?:=fun w' h=>hb w' (kX.trans h)
   change Code.wp _ _ _ _ (wr.alloc (.cells (tc t) 47))
   clear r0 r1 hb
   generalize wr.alloc (.cells (tc t) 47)=X at *
   cases q0:decide (A < 0)
   rotate_left
   ·have Hno:Hid ((t.cpu==cpu)=true->canP s.tasks s.locks t.no=false):=fun hc=>by
     have h1:=Hok.out
     have h2:=HAp.out.1
     unfold qdt at h1
     rw [beq_iff_eq] at hc
     rw [hc,<- h2,q0] at h1
     simp only [Bool.true_or,Bool.and_true,Bool.not_eq_true'] at h1
     unfold canP
     rw [h1,Bool.and_false]
    refine wp_region_held_drew (S:=(fun w'=>Keeps X w')) (by kernel_rfl) ?_ (fun hHeld => ?_)
    ·exact (Keeps.refl X).drew
    refine Plan.go [0,1,2] ?_
    iterate 3 (refine qac (by simp only [qab];rfl) (by kernel_rfl) (by exact fun _ _ _ h=>h) (by rfl) (by assumption) (fun w _=>by go_simp;try (with_reducible rfl)) ?_;try simp only [qaa])
    refine Plan.nil ?_
    refine Plan.go [3,4,5,6,7,8,9] ?_
    iterate 7 (refine qaq (by simp only [qab];rfl) (by kernel_rfl) (by exact fun _ _ _ h=>h) (by rfl) (by assumption) ?_;try simp only [qaa])
    refine Plan.nil ?_
    refine Plan.go [10,11] ?_
    iterate 2 (refine qac (by simp only [qab];rfl) (by kernel_rfl) (by exact fun _ _ _ h=>h) (by rfl) (by assumption) (fun w _=>by go_simp;try (with_reducible rfl)) ?_;try simp only [qaa])
    refine Plan.nil ?_
    refine wpAnyH_done (by kernel_rfl) ?_ _
    cases q1:(t.cpu==cpu)
    ·go_wp2
     exact ⟨⟨k+1,by omega,by go_num,kX.drew⟩,by simp only [intOf];omega⟩
    have q2:=Hno.out q1
    go_wp2_with (go_at_call 150;refine (hTX.out.pCan HN.out t.no q2 (Keeps.refl X).drew).mono ?_;rintro e w3 ⟨rfl,k3⟩)
    exact ⟨⟨k+1,by omega,by go_num,kX.drew.trans k3⟩,by simp only [intOf];omega⟩
   obtain ⟨j,hj⟩:∃ j:Nat,A=(j:Int):=⟨A.toNat,by simp at q0;omega⟩
   subst hj
   have hpj:qaz s.tasks s.locks cpu=(j:Int):=by
    have h1:=HAp.out.1
    rw [q0] at h1
    have h2:0 <= qaz s.tasks s.locks cpu:=by
     have:=h1.symm
     simp at this
     omega
    exact (HAp.out.2 h2).symm
   have hjl:j < tn:=by
    have hl:=(qdQ s.tasks (qbU s.tasks s.locks cpu) s.tasks.length).2
    have e:qaz s.tasks s.locks cpu=topN s.tasks (qbU s.tasks s.locks cpu) s.tasks.length:=rfl
    have:=Hn.out
    omega
   have hjn:(j:Int) < (tn:Int):=by omega
   obtain ⟨u,hu⟩:=qai (xs:=s.tasks) (k:=j) (by rw [Hn.out];exact hjl)
   obtain ⟨b',off',ha',r0',r1'⟩:=hs1.out.at hu (by omega)
   obtain ⟨rfl,rfl⟩:b'=b /\ off'=off:=by simpa using ha'.symm
   have r0:∀ w',Keeps X w'->w'.cell? ⟨b',off'+j*14,none⟩=some (.int .i64 u.no):=fun w' h=>r0' w' (kX.trans h)
   have r1:∀ w',Keeps X w'->∀ i,i < 14->w'.cell? ⟨b',off'+j*14+i,none⟩=(tc u)[i]?:=fun w' h=>r1' w' (kX.trans h)
   have Hno:Hid ((t.cpu==cpu)=true->befB t u=true->canP s.tasks s.locks t.no=false):=fun hc hbf=>by
    have h1:=Hok.out
    unfold qdt at h1
    rw [beq_iff_eq] at hc
    rw [hc,hpj,Int.toNat_natCast,qbM hu,hbf] at h1
    simp only [Bool.or_true,Bool.and_true,Bool.not_eq_true'] at h1
    unfold canP
    rw [h1,Bool.and_false]
   clear Hok hu r0' r1' ha' hpj HAp
   obtain ⟨z,Hz⟩:∃ z,Hid (befB t u=z):=⟨_,rfl⟩
   refine wp_region_held_drew (S:=(fun w'=>Keeps X w')) (by kernel_rfl) ?_ (fun hHeld => ?_)
   ·exact (Keeps.refl X).drew
   refine Plan.go [0,1,2,3,4,5,6,7,8] ?_
   iterate 9 (refine qac (by simp only [qab];rfl) (by kernel_rfl) (by exact fun _ _ _ h=>h) (by rfl) (by assumption) (fun w _=>by go_simp;try (with_reducible rfl)) ?_;try simp only [qaa])
   refine Plan.nil ?_
   refine qad 9 (by kernel_rfl) (by simp only [qab];rfl) (fun K hK => ?_)
   go_simp
   first
    | (go_at_call 149;refine (qfR t u _).mono ?_;rintro e w4 ⟨rfl,k4⟩;rw [Hz.out])
   try go_wp2_with fail
   refine hK.out _ _ ?_ (fun hHeld => ?_)
   ·exact Keeps.trans (by assumption) (by assumption)
   clear hK K
   try simp only [qaa]
   refine Plan.go [10,11] ?_
   iterate 2 (refine qac (by simp only [qab];rfl) (by kernel_rfl) (by exact fun _ _ _ h=>h) (by rfl) (by assumption) (fun w _=>by go_simp;try (with_reducible rfl)) ?_;try simp only [qaa])
   refine Plan.nil ?_
   refine wpAnyH_done (by kernel_rfl) ?_ _
   have K4:Keeps X w4:=by assumption
   cases q1:(t.cpu==cpu)
   ·go_wp2
    exact ⟨⟨k+1,by omega,by go_num,kX.trans K4⟩,by simp only [intOf];omega⟩
   cases z
   ·go_wp2
    exact ⟨⟨k+1,by omega,by go_num,kX.trans K4⟩,by simp only [intOf];omega⟩
   have q2:=Hno.out q1 Hz.out
   go_wp2_with (go_at_call 150;refine (hTX.out.pCan HN.out t.no q2 K4).mono ?_;rintro e w5 ⟨rfl,k5⟩)
   exact ⟨⟨k+1,by omega,by go_num,kX.trans (K4.trans k5)⟩,by simp only [intOf];omega⟩
  ·have hlt':decide ((k:Int) < (tn:Int))=false:=by simp;omega
   go_wp2
   go_ret
   exact ⟨rfl,kW.trans hK⟩
set_option maxHeartbeats 2000000 in
theorem qhT {w:World} {v:Sv} {s:Sy} (h:SysOn w v s) (R:SysR s) :
  Calls Tryz.prog 62 #[.agg (syc s v)] w fun e w'=>e = .returned (.bool true) /\ Keeps w w':=by
 obtain ⟨c,hcc,hc4⟩:∃ c:Nat,s.cpus=(c:Int) /\ c <= 4:=⟨s.cpus.toNat,by have:=R.cpus;omega,by have:=R.cpus;omega⟩
 have Hcc:Hid (s.cpus=(c:Int)):=hcc
 clear hcc
 have kW:=blkK w (.cells (syc s v) 37)
 have hb:=blkR w (syc s v) 37
 have HC:Hid (∀ (x:Int) w',Keeps (w.alloc (.cells (syc s v) 37)) w'->Calls Tryz.prog 105 #[.agg (syc s v),.int .i64 x] w' fun e w''=>e = .returned (.bool true) /\ Keeps w' w''):=fun x w' k=>qmp ((h.keeps kW).keeps k) R x
 clear h R
 go_enter Tryz.func62,Tryz.ntmps62
 go_wp2
 generalize w.alloc (.cells (syc s v) 37)=W at *
 go_loopw [6] (fun i wr=>∃ k:Nat,k <= c /\ i = .int .i64 k /\ Keeps W wr) (fun i _=>c - (intOf i).toNat)
 case atStart=>exact ⟨0,Nat.zero_le _,rfl,Keeps.refl _⟩
 case round =>
  obtain ⟨k,hk,rfl,hK⟩:=hrel
  by_cases hlt:k < c
  ·have hltc:decide ((k:Int) < s.cpus)=true:=by have:=Hcc.out;simp;omega
   go_wp2_with (go_at_call 105;refine (HC.out _ _ hK).mono ?_;rintro e w1 ⟨rfl,k1⟩)
   exact ⟨⟨k+1,by omega,by go_num,hK.trans k1⟩,by simp only [intOf];omega⟩
  ·have hlt':decide ((k:Int) < s.cpus)=false:=by have:=Hcc.out;simp;omega
   go_wp2
   go_ret
   exact ⟨rfl,kW.trans hK⟩
theorem SysR.pickPos {s:Sy} (R:SysR s) (c:Int):qaA s.tasks s.locks c=0∨0 < qaA s.tasks s.locks c:=by
 by_cases h0:qaA s.tasks s.locks c=0
 ·exact .inl h0
 ·refine .inr ?_
  unfold qaA at h0 ⊢
  split at h0
  case isFalse=>exact absurd rfl h0
  case isTrue hp =>
   rw [if_pos hp]
   have hex:(qa6 s.tasks s.locks (noAt s.tasks (qaz s.tasks s.locks c)) != 0)=true:=by simpa using h0
   obtain ⟨k,t,-,ht,e⟩:=qbV.1 (qeL hex).2.2.2
   have:=qct R.tasks ht
   unfold qae at this
   simp only [Bool.and_eq_true,qap] at this
   have:=this.1.1.1.1
   omega
def qcy (s:Sy) (k:Nat):List Int:=(qb2 s k).filter fun x => !(x==0)
theorem qmq (s:Sy) (k:Nat):qcy s (k+1)=qcy s k++(if qaA s.tasks s.locks k==0 then [] else [qaA s.tasks s.locks k]):=by
 unfold qcy
 rw [qhN,List.filter_append]
 congr 1
 cases e:(qaA s.tasks s.locks k==0) <;> simp [e]
theorem qmr (s:Sy) (k:Nat):(qcy s k).length <= k:=by
 have h:=List.length_filter_le (fun x:Int => !(x==0)) (qb2 s k)
 rw [qhO] at h
 exact h
theorem qms {s:Sy} (R:SysR s) {k:Nat} (hk:(k:Int) < s.cpus) (h:(qaA s.tasks s.locks k==0)=false):hasB (qcy s k) (qaA s.tasks s.locks k)=false:=by
 have hp:0 < qaA s.tasks s.locks k:=by
  rcases R.pickPos k with h1 | h1
  ·rw [h1] at h;cases h
  ·exact h1
 have h1:=qhP R hk hp
 rw [qeF] at h1 ⊢
 exact fun hm=>h1 (List.mem_filter.1 hm).1
set_option maxHeartbeats 4000000 in
theorem qhU {w:World} {v:Sv} {s:Sy} (h:SysOn w v s) (R:SysR s) :
  Calls Tryz.prog 63 #[.agg (syc s v)] w fun e w'=>e = .returned (.bool true) /\ Keeps w w':=by
 obtain ⟨c,hcc,hc4⟩:∃ c:Nat,s.cpus=(c:Int) /\ c <= 4:=⟨s.cpus.toNat,by have:=R.cpus;omega,by have:=R.cpus;omega⟩
 have Hcc:Hid (s.cpus=(c:Int)):=hcc
 clear hcc
 have HR:Hid (SysR s):=R
 have kW:=blkK w (.cells (syc s v) 37)
 have hb:=blkR w (syc s v) 37
 have HC:Hid (∀ (x:Int) w',Keeps (w.alloc (.cells (syc s v) 37)) w'->Calls Tryz.prog 106 #[.slice v.t.a v.t.n v.t.cap,.slice v.l.a v.l.n v.l.cap,.int .i64 x] w' fun e w''=>e = .returned (.tuple #[.int .i64 (qa7 s.tasks s.locks x),.int .i64 (qaA s.tasks s.locks x)]) /\ Keeps w' w''):=fun x w' k =>
  qhB w' v.t.a v.t.n v.t.cap s.tasks v.l.a v.l.n v.l.cap s.locks x h.tc.le ⟨((h.keeps kW).keeps k).onT,((h.keeps kW).keeps k).onL⟩
 clear h R
 go_enter Tryz.func63,Tryz.ntmps63
 go_wp2
 generalize w.alloc (.cells (syc s v) 37)=W at *
 go_loopw [3,9] (fun o i wr=>∃ k:Nat,k <= c /\ i = .int .i64 k /\ Hid (OwnN wr W.heap.size o (qcy s k)) /\ Keeps W wr) (fun _ i _=>c - (intOf i).toNat)
 case atStart=>exact ⟨0,Nat.zero_le _,rfl,World.ownsRow_nil _ _ _ _,Keeps.refl _⟩
 case round =>
  obtain ⟨k,hk,rfl,O,hK⟩:=hrel
  by_cases hlt:k < c
  ·have hltc:decide ((k:Int) < s.cpus)=true:=by have:=Hcc.out;simp;omega
   obtain ⟨xs,HX⟩:∃ xs,Hid (qcy s k=xs):=⟨_,rfl⟩
   have hxl:xs.length <= k:=by rw [<- HX.out];exact qmr s k
   obtain ⟨x,Hx⟩:∃ x,Hid (qaA s.tasks s.locks (k:Int)=x):=⟨_,rfl⟩
   obtain ⟨no,Hno⟩:∃ x,Hid (qa7 s.tasks s.locks (k:Int)=x):=⟨_,rfl⟩
   have Hstep:Hid (qcy s (k+1)=xs++(if x==0 then [] else [x])):=by show _=_;rw [qmq,HX.out,Hx.out]
   have Hnew:Hid ((x==0)=false->hasB xs x=false):=by rw [<- HX.out,<- Hx.out];exact qms HR.out (by have:=Hcc.out;omega)
   rw [HX.out] at O
   have PK:Hid (Calls Tryz.prog 106 #[.slice v.t.a v.t.n v.t.cap,.slice v.l.a v.l.n v.l.cap,.int .i64 (k:Int)] wr fun e w'=>e = .returned (.tuple #[.int .i64 no,.int .i64 x]) /\ Keeps wr w'):=by
    have:=HC.out (k:Int) wr hK
    rw [Hno.out,Hx.out] at this
    exact this
   have HasC:Hid (∀ (o:Value) w',OwnN w' W.heap.size o xs->Calls Tryz.prog 107 #[o,.int .i64 x] w' fun e w''=>e = .returned (.bool (hasB xs x)) /\ Keeps w' w''):=fun o w' ho=>by
    obtain ⟨a,cap,rfl,hn,h1,h2⟩:=ho.ns
    exact qlg a cap xs x w' (by omega) hn
   clear HX Hx Hno HC
   go_wp2_with fail
   refine PK.out.mono ?_
   rintro e w2 ⟨rfl,k2⟩
   have O2:Hid (OwnN w2 W.heap.size _ xs):=O.out.keeps k2
   have K2:Keeps W w2:=hK.trans k2
   clear PK O k2 hK
   cases q1:(x==0)
   rotate_left
   ·have HO:Hid (OwnN w2 W.heap.size u3 (qcy s (k+1))):=by rw [Hstep.out,q1,if_pos rfl,List.append_nil];exact O2.out
    clear O2 Hstep HasC Hnew
    go_wp2
    exact ⟨⟨k+1,by omega,by go_num,HO,K2⟩,by simp only [intOf];omega⟩
   ·have q2:hasB xs x=false:=Hnew.out q1
    have Hs2:Hid (qcy s (k+1)=xs++[x]):=by show _=_;rw [Hstep.out,q1,if_neg (by decide)]
    rw [q2] at HasC
    clear Hnew Hstep
    go_wp2_with fail
    refine (HasC.out _ w2 O2.out).mono ?_
    rintro e w3 ⟨rfl,k3⟩
    have O3:Hid (OwnN w3 W.heap.size _ xs):=O2.out.keeps k3
    have K3:Keeps W w3:=K2.trans k3
    clear O2 K2 k3 HasC
    go_wp2_with (at_builtin;(refine qbi rfl _ _ 25 rfl W 3 (.int .i64 0) 1 8 ic Tryz.underlying25 (by kernel_rfl) rfl (by decide) qaZ qci _ xs rfl w3 O3.out K3 ((Keeps.refl _).alloc _) x _ 1 (Blk.new _ _ _) rfl ?c1 ?c2 ?_))
    case c1=>unfold maxLen;omega
    case c2=>omega
    intro v' w5 own5 k5 _
    have HO:Hid (OwnN w5 W.heap.size v' (qcy s (k+1))):=by rw [Hs2.out];exact own5
    clear own5 O3 Hs2
    go_wp2
    exact ⟨⟨k+1,by omega,by go_num,HO,k5⟩,by simp only [intOf];omega⟩
  ·have hlt':decide ((k:Int) < s.cpus)=false:=by have:=Hcc.out;simp;omega
   go_wp2
   go_ret
   exact ⟨rfl,kW.trans hK⟩
set_option maxHeartbeats 2000000 in
theorem qmt:qfW:=by
 intro w v s hg h
 have kW:=blkK w (.cells (syc s v) 37)
 have hb:=blkR w (syc s v) 37
 have hS:Hid (SysOn (w.alloc (.cells (syc s v) 37)) v s):=h.keeps kW
 have hG:Hid (GlobE (w.alloc (.cells (syc s v) 37))):=hg.keeps kW
 clear h hg
 go_enter Tryz.func19,Tryz.ntmps19
 go_wp2_with fail
 generalize w.alloc (.cells (syc s v) 37)=W at *
 refine (qeo W v s hG.out hS.out).mono ?_
 rintro e w1 ⟨rfl,k1⟩
 cases c1:sysB s
 ·have Hr:Hid (qaJ s=false):=by show _=_;unfold qaJ;rw [c1];rfl
  go_wp2
  go_ret
  exact ⟨by rw [Hr.out];rfl,kW.trans k1⟩
 have R:SysR s:=qbh.1 c1
 obtain ⟨z,Hz⟩:∃ z,Hid ((qaJ s)=z):=⟨_,rfl⟩
 have Hr:Hid (qaJ s=z):=(show qaJ s=(qaJ s) from rfl).trans Hz.out
 have C:Hid (Calls Tryz.prog 59 #[.agg (syc s v)] w1 fun e w'=>e = .returned (.bool z) /\ Keeps w1 w'):=by
  have:=qhQ ((hS.out.keeps k1)) R
  rw [Hz.out] at this
  exact this
 clear R c1 Hz hS hG
 go_wp2_with fail
 refine C.out.mono ?_
 rintro e w2 ⟨rfl,k2⟩
 clear C
 go_wp2
 go_ret
 exact ⟨by rw [Hr.out];rfl,kW.trans (k1.trans k2)⟩
set_option maxHeartbeats 2000000 in
theorem qmu:qfX:=by
 intro w v s hg h
 have kW:=blkK w (.cells (syc s v) 37)
 have hb:=blkR w (syc s v) 37
 have hS:Hid (SysOn (w.alloc (.cells (syc s v) 37)) v s):=h.keeps kW
 have hG:Hid (GlobE (w.alloc (.cells (syc s v) 37))):=hg.keeps kW
 clear h hg
 go_enter Tryz.func20,Tryz.ntmps20
 go_wp2_with fail
 generalize w.alloc (.cells (syc s v) 37)=W at *
 refine (qeo W v s hG.out hS.out).mono ?_
 rintro e w1 ⟨rfl,k1⟩
 cases c1:sysB s
 ·have Hr:Hid (qbD s=false):=by show _=_;unfold qbD;rw [c1];rfl
  go_wp2
  go_ret
  exact ⟨by rw [Hr.out];rfl,kW.trans k1⟩
 have R:SysR s:=qbh.1 c1
 obtain ⟨z,Hz⟩:∃ z,Hid ((s.missed==0)=z):=⟨_,rfl⟩
 have Hr:Hid (qbD s=z):=(show qbD s=(s.missed==0) from by show _=_;unfold qbD;rw [c1];rfl).trans Hz.out
 have C:Hid (Calls Tryz.prog 60 #[.agg (syc s v)] w1 fun e w'=>e = .returned (.bool z) /\ Keeps w1 w'):=by
  have:=qhR (w:=w1) (v:=v) (s:=s)
  rw [Hz.out] at this
  exact this
 clear R c1 Hz hS hG
 go_wp2_with fail
 refine C.out.mono ?_
 rintro e w2 ⟨rfl,k2⟩
 clear C
 go_wp2
 go_ret
 exact ⟨by rw [Hr.out];rfl,kW.trans (k1.trans k2)⟩
set_option maxHeartbeats 2000000 in
theorem qmv:qfY:=by
 intro w v s hg h
 have kW:=blkK w (.cells (syc s v) 37)
 have hb:=blkR w (syc s v) 37
 have hS:Hid (SysOn (w.alloc (.cells (syc s v) 37)) v s):=h.keeps kW
 have hG:Hid (GlobE (w.alloc (.cells (syc s v) 37))):=hg.keeps kW
 clear h hg
 go_enter Tryz.func21,Tryz.ntmps21
 go_wp2_with fail
 generalize w.alloc (.cells (syc s v) 37)=W at *
 refine (qeo W v s hG.out hS.out).mono ?_
 rintro e w1 ⟨rfl,k1⟩
 cases c1:sysB s
 ·have Hr:Hid (qa0 s=false):=by show _=_;unfold qa0;rw [c1];rfl
  go_wp2
  go_ret
  exact ⟨by rw [Hr.out];rfl,kW.trans k1⟩
 have R:SysR s:=qbh.1 c1
 obtain ⟨z,Hz⟩:∃ z,Hid ((qa0 s)=z):=⟨_,rfl⟩
 have Hr:Hid (qa0 s=z):=(show qa0 s=(qa0 s) from rfl).trans Hz.out
 have C:Hid (Calls Tryz.prog 61 #[.agg (syc s v)] w1 fun e w'=>e = .returned (.bool z) /\ Keeps w1 w'):=by
  have:=qhS (hS.out.keeps k1) R
  rw [Hz.out] at this
  exact this
 clear R c1 Hz hS hG
 go_wp2_with fail
 refine C.out.mono ?_
 rintro e w2 ⟨rfl,k2⟩
 clear C
 go_wp2
 go_ret
 exact ⟨by rw [Hr.out];rfl,kW.trans (k1.trans k2)⟩
set_option maxHeartbeats 2000000 in
theorem qmw:qfZ:=by
 intro w v s hg h
 have kW:=blkK w (.cells (syc s v) 37)
 have hb:=blkR w (syc s v) 37
 have hS:Hid (SysOn (w.alloc (.cells (syc s v) 37)) v s):=h.keeps kW
 have hG:Hid (GlobE (w.alloc (.cells (syc s v) 37))):=hg.keeps kW
 clear h hg
 go_enter Tryz.func22,Tryz.ntmps22
 go_wp2_with fail
 generalize w.alloc (.cells (syc s v) 37)=W at *
 refine (qeo W v s hG.out hS.out).mono ?_
 rintro e w1 ⟨rfl,k1⟩
 cases c1:sysB s
 ·have Hr:Hid (qbs s=false):=by show _=_;unfold qbs;rw [c1];rfl
  go_wp2
  go_ret
  exact ⟨by rw [Hr.out];rfl,kW.trans k1⟩
 have R:SysR s:=qbh.1 c1
 obtain ⟨z,Hz⟩:∃ z,Hid ((true)=z):=⟨_,rfl⟩
 have Hr:Hid (qbs s=z):=(show qbs s=(true) from by show _=_;unfold qbs;rw [c1,qd1];rfl).trans Hz.out
 have C:Hid (Calls Tryz.prog 62 #[.agg (syc s v)] w1 fun e w'=>e = .returned (.bool z) /\ Keeps w1 w'):=by
  have:=(show Calls Tryz.prog 62 #[.agg (syc s v)] w1 (fun e w'=>e = .returned (.bool (true)) /\ Keeps w1 w') from qhT (hS.out.keeps k1) R)
  rw [Hz.out] at this
  exact this
 clear R c1 Hz hS hG
 go_wp2_with fail
 refine C.out.mono ?_
 rintro e w2 ⟨rfl,k2⟩
 clear C
 go_wp2
 go_ret
 exact ⟨by rw [Hr.out];rfl,kW.trans (k1.trans k2)⟩
set_option maxHeartbeats 2000000 in
theorem qmx:qf0:=by
 intro w v s hg h
 have kW:=blkK w (.cells (syc s v) 37)
 have hb:=blkR w (syc s v) 37
 have hS:Hid (SysOn (w.alloc (.cells (syc s v) 37)) v s):=h.keeps kW
 have hG:Hid (GlobE (w.alloc (.cells (syc s v) 37))):=hg.keeps kW
 clear h hg
 go_enter Tryz.func23,Tryz.ntmps23
 go_wp2_with fail
 generalize w.alloc (.cells (syc s v) 37)=W at *
 refine (qeo W v s hG.out hS.out).mono ?_
 rintro e w1 ⟨rfl,k1⟩
 cases c1:sysB s
 ·have Hr:Hid (qbt s=false):=by show _=_;unfold qbt;rw [c1];rfl
  go_wp2
  go_ret
  exact ⟨by rw [Hr.out];rfl,kW.trans k1⟩
 have R:SysR s:=qbh.1 c1
 obtain ⟨z,Hz⟩:∃ z,Hid ((true)=z):=⟨_,rfl⟩
 have Hr:Hid (qbt s=z):=(show qbt s=(true) from by show _=_;unfold qbt;rw [c1,qez R];rfl).trans Hz.out
 have C:Hid (Calls Tryz.prog 63 #[.agg (syc s v)] w1 fun e w'=>e = .returned (.bool z) /\ Keeps w1 w'):=by
  have:=(show Calls Tryz.prog 63 #[.agg (syc s v)] w1 (fun e w'=>e = .returned (.bool (true)) /\ Keeps w1 w') from qhU (hS.out.keeps k1) R)
  rw [Hz.out] at this
  exact this
 clear R c1 Hz hS hG
 go_wp2_with fail
 refine C.out.mono ?_
 rintro e w2 ⟨rfl,k2⟩
 clear C
 go_wp2
 go_ret
 exact ⟨by rw [Hr.out];rfl,kW.trans (k1.trans k2)⟩
abbrev stc (x:ByteArray):Array Value:=#[.string x]
theorem qc8 (x:ByteArray):(stc x).size=1:=rfl
theorem qf2 (x:ByteArray):∀ u∈(stc x).toList,u.oneCell'=true:=by
 intro u hu
 simp at hu
 subst hu
 rfl
abbrev qd2 (w:World) (base:Nat) (v:Value) (xs:List ByteArray):Prop:=Own 9 1 stc w base v xs
theorem qmy (x:ByteArray) (w:World) :
  Calls Tryz.prog 232 #[.string x] w fun e w'=>e = .returned (.bool false) /\ w'=w:=by
 go_enter Tryz.func232,Tryz.ntmps232
 go_wp2
 go_ret
 exact ⟨rfl,rfl⟩
theorem qmz (x y:ByteArray) (w:World) :
  Calls Tryz.prog 201 #[.string x,.string y] w fun e w'=>∃ b,e = .returned (.bool b) /\ w'=w:=by
 go_enter Tryz.func201,Tryz.ntmps201
 go_wp2_with (go_at_call 232;refine (qmy _ _).mono ?_;rintro e w' ⟨rfl,hw'⟩;have hw2:=hw'.symm;subst hw2)
 go_ret
 exact ⟨_,rfl,rfl⟩
theorem qmA (n:Nat) (hn:n <= 5) (w:World) :
  Calls Tryz.prog 205 #[.int .u64 (n:Int)] w fun e w'=>∃ k:Int,e = .returned (.int .i64 k) /\ w'=w:=by
 rcases (by omega:n=0∨n=1∨n=2∨n=3∨n=4∨n=5) with rfl | rfl | rfl | rfl | rfl | rfl
 all_goals
  go_enter Tryz.func205,Tryz.ntmps205
  go_wp2
  go_ret
  exact ⟨_,rfl,rfl⟩
theorem qmB (n:Nat) (hn:n <= 5) (w:World) :
  Calls Tryz.prog 168 #[.int .u64 (n:Int)] w fun e w'=>∃ k:Int,e = .returned (.int .i64 k) /\ w'=w:=by
 go_enter Tryz.func168,Tryz.ntmps168
 go_wp2_with (go_at_call 205;refine (qmA n hn _).mono ?_;rintro e w' ⟨k,rfl,hw'⟩;have hw2:=hw'.symm;subst hw2)
 go_ret
 exact ⟨_,rfl,rfl⟩
structure RowT (W0:World) (base b n cap:Nat) (ys:List ByteArray) (w:World):Prop where
 len:ys.length=n
 own:qd2 w base (.slice (some ⟨b,0,none⟩) n cap) ys
 keeps:Keeps W0 w
theorem RowT.go {W0:World} {base b n cap:Nat} {ys:List ByteArray} {w w':World} (h:RowT W0 base b n cap ys w) (k:Keeps w w'):RowT W0 base b n cap ys w':=⟨h.len,h.own.keeps k,h.keeps.trans k⟩
theorem RowT.cell {W0:World} {base b n cap:Nat} {ys:List ByteArray} {w:World} (h:RowT W0 base b n cap ys w) {k:Nat} {x:ByteArray} (hx:ys[k]?=some x):∀ w',Keeps w w'->w'.cell? ⟨b,k,none⟩=some (.string x):=fun w' kk=>by
 have h1:=(h.go kk).own
 rw [<- h.len] at h1
 have h2:=h1.cellAt qc8 (i:=k) (k:=0) hx (by omega)
 simpa using h2
theorem RowT.swap {W0:World} {base b n cap:Nat} {ys:List ByteArray} {w:World} (h:RowT W0 base b n cap ys w) (h0:W0.heap.size <= base) {i j:Nat} (hi:i < n) (hj:j < n) (x y:ByteArray) :
  RowT W0 base b n cap ((ys.set i x).set j y) ((w.setCell ⟨b,i,none⟩ (.string x)).setCell ⟨b,j,none⟩ (.string y)).drew:=by
 obtain ⟨hl,own,keeps⟩:=h
 subst hl
 obtain ⟨f1,f2,-⟩:=own.free
 have o1:=own.put qc8 hi x
 have o2:=Own.put (xs:=ys.set i x) (i:=j) qc8 o1 (by simpa using hj) y
 rw [List.length_set,List.length_set,Nat.mul_one,Nat.mul_one] at o2
 have k2:Keeps W0 (putC (putC w b (i*1) (stc x).toList) b (j*1) (stc y).toList):=Keeps.putC (b:=b) (by omega) _ _ (Keeps.putC (b:=b) (by omega) _ _ keeps)
 rw [Nat.mul_one,Nat.mul_one] at k2
 exact ⟨by simp,o2.keeps (Keeps.refl _).drew,k2.drew⟩
set_option maxHeartbeats 4000000 in
theorem qmC {W0 w:World} {base b n cap:Nat} {xs:List ByteArray} (h:RowT W0 base b n cap xs w) (h0:W0.heap.size <= base) (hn:n <= 5) :
  Calls Tryz.prog 195 #[.slice (some ⟨b,0,none⟩) n cap,.int .i64 0,.int .i64 (n:Int)] w fun e w'=>e = .returned (.tuple #[]) /\ Keeps W0 w':=by
 have HR:Hid (RowT W0 base b n cap xs w):=h
 clear h
 go_enter Tryz.func195,Tryz.ntmps195
 go_wp2
 go_loopw [6] (fun i wr=>∃ (k:Nat) (ys:List ByteArray),k <= 6 /\ i = .int .i64 k /\ Hid (RowT W0 base b n cap ys wr)) (fun i _=>6 - (intOf i).toNat)
 case atStart=>exact ⟨1,xs,by omega,rfl,HR⟩
 case round =>
  obtain ⟨k,ys,hk,rfl,R⟩:=hrel
  clear HR
  by_cases hlt:k < n
  rotate_left
  ·have hlt':decide ((k:Int) < (n:Int))=false:=by simp;omega
   go_wp2
   go_end0
   exact ⟨rfl,R.out.keeps⟩
  have hlt':(k:Int) < (n:Int):=by omega
  go_wp2_with fail
  go_loopw [7] (fun j wr=>∃ (m:Nat) (zs:List ByteArray),m <= k /\ j = .int .i64 m /\ Hid (RowT W0 base b n cap zs wr)) (fun j _=>(intOf j).toNat)
  case atStart=>exact ⟨k,ys,Nat.le_refl _,rfl,R⟩
  case round =>
   obtain ⟨m,zs,hm,rfl,S⟩:=hrel
   clear R
   generalize wr=V at *
   by_cases hm0:0 < m
   rotate_left
   ·have hm0':decide ((0:Int) < (m:Int))=false:=by simp;omega
    have hm1:decide (0 < m)=false:=by simp;omega
    go_wp2_with fail
    refine wp_region_held_drew (S:=(fun w'=>Keeps V w')) (by kernel_rfl) ?_ (fun hHeld => ?_)
    ·exact (Keeps.refl V).drew
    refine Plan.go [0,1,2,3] ?_
    iterate 4 (refine qac (by simp only [qab];rfl) (by kernel_rfl) (by exact fun _ _ _ h=>h) (by rfl) (by assumption) (fun w _=>by go_simp;try (with_reducible rfl)) ?_;try simp only [qaa])
    refine Plan.nil ?_
    refine Plan.go [4,5,6,7,8,9,10,11,12,13] ?_
    iterate 10 (refine qaq (by simp only [qab];rfl) (by kernel_rfl) (by exact fun _ _ _ h=>h) (by rfl) (by assumption) ?_;try simp only [qaa])
    refine Plan.nil ?_
    refine qan 14 (v := ?_) (by simp only [qab];rfl) (by kernel_rfl) (by exact fun _ _ _ h=>h) (by rfl) (by assumption) ?_ ?_
    rotate_left
    ·(intro w _;go_simp;try (with_reducible rfl))
    try simp only [qaa]
    refine wpAnyH_done (by kernel_rfl) ?_ _
    go_wp2
    exact ⟨⟨k+1,zs,by omega,by go_num,S.out.go (Keeps.refl _).drew⟩,by simp only [intOf];omega⟩
   have hm0':decide ((0:Int) < (m:Int))=true:=by simp;omega
   have hm1:decide (0 < m)=true:=by simp;omega
   obtain ⟨p,Hp⟩:∃ p:Nat,Hid (m=p+1):=⟨m - 1,by show _=_;omega⟩
   have hmp:(m:Int) - 1=(p:Int):=by have:=Hp.out;omega
   have hwp:IntKind.i64.wrap (p:Int)=(p:Int):=Go.IntWalk.i64_in _ (by have:=Hp.out;omega)
   have hml:(m:Int) < (n:Int):=by omega
   have hpl:(p:Int) < (n:Int):=by have:=Hp.out;omega
   obtain ⟨x,hx⟩:=qai (xs:=zs) (k:=m) (by rw [S.out.len];omega)
   obtain ⟨y,hy⟩:=qai (xs:=zs) (k:=p) (by rw [S.out.len];have:=Hp.out;omega)
   have rx:=S.out.cell hx
   have ry:=S.out.cell hy
   clear hx hy
   go_wp2_with fail
   refine wp_region_held_drew (S:=(fun w'=>Keeps V w')) (by kernel_rfl) ?_ (fun hHeld => ?_)
   ·exact (Keeps.refl V).drew
   refine Plan.go [0,1,2,3,4,5,6,7,8,9,10,11,12] ?_
   iterate 13 (refine qac (by simp only [qab];rfl) (by kernel_rfl) (by exact fun _ _ _ h=>h) (by rfl) (by assumption) (fun w _=>by go_simp;try (with_reducible rfl)) ?_;try simp only [qaa])
   refine Plan.nil ?_
   refine qad 13 (by kernel_rfl) (by simp only [qab];rfl) (fun K hK => ?_)
   go_simp
   (go_at_call 201;refine (qmz _ _ _).mono ?_;rintro e w5 ⟨bb,rfl,hw5⟩;have hw6:=hw5.symm;subst hw6)
   try go_wp2_with fail
   refine hK.out _ _ ?_ (fun hHeld => ?_)
   ·assumption
   clear hK K
   try simp only [qaa]
   refine qan 14 (v := ?_) (by simp only [qab];rfl) (by kernel_rfl) (by exact fun _ _ _ h=>h) (by rfl) (by assumption) ?_ ?_
   rotate_left
   ·(intro w _;go_simp;try (with_reducible rfl))
   try simp only [qaa]
   refine wpAnyH_done (by kernel_rfl) ?_ _
   cases bb
   ·go_wp2
    exact ⟨⟨k+1,zs,by omega,by go_num,S.out.go (Keeps.refl _).drew⟩,by simp only [intOf];omega⟩
   have SD:Hid (RowT W0 base b n cap zs V.drew):=S.out.go (Keeps.refl _).drew
   have rx2:V.drew.cell? ⟨b,m,none⟩=some (.string x):=rx _ (Keeps.refl _).drew
   have ry2:V.drew.cell? ⟨b,p,none⟩=some (.string y):=ry _ (Keeps.refl _).drew
   obtain ⟨-,-,fr⟩:=SD.out.own.free
   clear rx ry hHeld S
   generalize V.drew=U at *
   go_wp2_with fail
   go_region
   have D:=SD.out.swap h0 (i:=m) (j:=p) (by omega) (by omega) y x
   change Exit.inBlock _ _ _ _ ((U.setCell ⟨b,m,none⟩ (.string y)).setCell ⟨b,p,none⟩ (.string x)).drew
   clear rx2 ry2 fr
   generalize ((U.setCell ⟨b,m,none⟩ (.string y)).setCell ⟨b,p,none⟩ (.string x)).drew=Y at D ⊢
   have DH:Hid (RowT W0 base b n cap ((zs.set m y).set p x) Y):=D
   clear D
   go_wp2
   exact ⟨⟨p,_,by have:=Hp.out;omega,by go_num,DH⟩,by simp only [intOf];have:=Hp.out;omega⟩
theorem qmD (a:Option Addr) (cap:Nat) (w:World) :
  Calls Tryz.prog 195 #[.slice a 0 cap,.int .i64 0,.int .i64 0] w fun e w'=>e = .returned (.tuple #[]) /\ w'=w:=by
 go_enter Tryz.func195,Tryz.ntmps195
 go_wp2
 go_loopw [6] (fun i wr=>i = .int .i64 1 /\ wr=w) (fun _ _=>0)
 case atStart=>exact ⟨rfl,rfl⟩
 case round =>
  obtain ⟨rfl,hw⟩:=hrel
  have hw2:=hw.symm
  subst hw2
  go_wp2
  go_end0
  exact ⟨rfl,rfl⟩
def qd3 (W0:World) (e:Ending) (w':World):Prop:=e = .returned (.tuple #[]) /\ Keeps W0 w'
theorem qmE {W0 w:World} {v:Value} (n:Nat) (hn:n <= 5) (l:Int) (hv:∃ a cap,v = .slice a n cap) (C:Calls Tryz.prog 195 #[v,.int .i64 0,.int .i64 (n:Int)] w (qd3 W0)) :
  Calls Tryz.prog 167 #[v,.int .i64 0,.int .i64 (n:Int),.int .i64 l] w (qd3 W0):=by
 obtain ⟨a,cap,rfl⟩:=hv
 have HC:Hid (Calls Tryz.prog 195 #[.slice a n cap,.int .i64 0,.int .i64 (n:Int)] w (qd3 W0)):=C
 clear C
 have hd:decide ((n:Int) <= 12)=true:=by simp;omega
 have hd2:decide (n <= 12)=true:=by simp;omega
 go_enter Tryz.func167,Tryz.ntmps167
 go_wp2
 go_loopw [1,2] (fun i j wr=>i = .int .i64 0 /\ j = .int .i64 (n:Int) /\ wr=w) (fun _ _ _=>0)
 case atStart=>exact ⟨rfl,rfl,rfl⟩
 case round =>
  obtain ⟨rfl,rfl,hw⟩:=hrel
  have hw2:=hw.symm
  subst hw2
  go_wp2_with (go_at_call 195;refine HC.out.mono ?_;rintro e w1 ⟨rfl,k1⟩)
  exact bodyPost_ret (v := .tuple #[]) (results_none rfl _ _ _) rfl ⟨rfl,k1⟩
theorem qmF {W0 w:World} {base:Nat} {v:Value} {xs:List ByteArray} (o:qd2 w base v xs) (k:Keeps W0 w) (h0:W0.heap.size <= base) (hn:xs.length <= 5) :
  Calls Tryz.prog 118 #[v] w (qd3 W0):=by
 have hform:∃ a cap,v = .slice a xs.length cap /\ Calls Tryz.prog 195 #[v,.int .i64 0,.int .i64 (xs.length:Int)] w (qd3 W0):=by
  rcases Nat.eq_zero_or_pos xs.length with h | h
  ·obtain ⟨a,cap,e,-,-,-⟩:=Own.slice o qc8
   refine ⟨a,cap,e,?_⟩
   rw [e,h]
   exact (qmD a cap w).mono fun e w' ⟨h1,h2⟩=>⟨h1,by rw [h2];exact k⟩
  ·obtain ⟨b,cap,e⟩:∃ b cap,v = .slice (some ⟨b,0,none⟩) xs.length cap:=by
    obtain ⟨b,cap,e,-⟩:=Own.some o qc8 h
    exact ⟨b,cap,e⟩
   refine ⟨_,cap,e,?_⟩
   subst e
   exact qmC ⟨rfl,o,k⟩ h0 hn
 obtain ⟨a,cap,rfl,C⟩:=hform
 obtain ⟨n,Hn⟩:∃ n,Hid (xs.length=n):=⟨_,rfl⟩
 rw [Hn.out] at C hn ⊢
 have PQ:Hid (∀ l:Int,Calls Tryz.prog 167 #[.slice a n cap,.int .i64 0,.int .i64 (n:Int),.int .i64 l] w (qd3 W0)):=fun l=>qmE n hn l ⟨a,cap,rfl⟩ C
 clear C o
 go_enter Tryz.func118,Tryz.ntmps118
 go_wp2_with (first
  | (go_at_call 168;refine (qmB n hn _).mono ?_;rintro e w' ⟨l,rfl,hw'⟩;have hw2:=hw'.symm;subst hw2)
  | (go_at_call 167;refine (PQ.out l).mono ?_;rintro e w1 ⟨rfl,k1⟩))
 go_end0
 exact ⟨rfl,k1⟩
end Go.Proofs.YthpdlbcdbncnhaaGreatDoor
namespace Go.Proofs.YthpdlbcdbncnhaaGreatDoor
set_option maxRecDepth 100000
open Go.RowKit
section
variable {P:Program} {w:World} {ops:Array Oper} {rest:List Oper} {o:Oper} {a:Act} {Q:Exit->Act->World->Prop}
theorem qeA (hg:o.guard=none) (m x y:Operand) (t:TypeId) (hop:o.op=Op.insert t m x y) (k e:TypeId) (ht:P.underlying t=some (.map k e)) (hk:P.underlying k=some .string)
  (b:Nat) (xs:Array MapEntry) (clock:Nat) (hm:a.eval m = .map (some b)) (hb:w.heap[b]?=some (.map xs clock)) (z:ByteArray) (hx:a.eval x = .string z) (v:Value) (hy:a.eval y=v) (hn:Instr.findNow .string (.string z) xs.toList 0=some none)
  (hK:∀ w',w'.heap[b]?=some (.map (xs.push ⟨.string z,v,clock⟩) (clock+1))->w.grownBy w' (some b)->wpList P ops Q rest (a.put o.dst undef) w'):wpList P ops Q (o::rest) a w:=by
 refine wpList_plain hg fun K' hK' => ?_
 have ck:∀ em,(Instr.checkKey em 10000 k (.string z)).run P w = .ok () w:=fun em=>MapKept.run_checkKey hk (by simp [MapKept.IsKey]) em 9999
 have hrun:(Instr.mapUpdate t (.map (some b)) (.string z) v).run P w = .ok () { w with heap:=w.heap.setIfInBounds b (.map (xs.push ⟨.string z,v,clock⟩) (clock+1)) }:=by
  simp [Instr.mapUpdate,run_underlying ht,MapKept.run_getObj_map hb,ck,MapKept.run_findKey hk hn,MapKept.run_setObj_map _ hb,Result.andThen]
 unfold Oper.wp
 simp [execOp,hop,hm,hx,hy,hrun,Result.andThen]
 exact hK' _ _ (hK _ (MapKept.heap_set hb).1 (qfx hb))
theorem qmG (hg:o.guard=none) (m:Operand) (t:TypeId) (hop:o.op=Op.range t m) (k e:TypeId) (ht:P.underlying t=some (.map k e)) (b:Nat) (xs:Array MapEntry) (clock:Nat) (hm:a.eval m = .map (some b)) (hb:w.heap[b]?=some (.map xs clock))
  (hK:wpList P ops Q rest (a.put o.dst (.pointer (some ⟨w.heap.size,0,none⟩))) (w.alloc (.mapIter (some b) clock #[] clock))):wpList P ops Q (o::rest) a w:=by
 refine wpList_plain hg fun K' hK' => ?_
 have hrun:=run_range_map (P:=P) w t k e b xs clock ht hb
 unfold Oper.wp
 simp [execOp,hop,hm,hrun,Result.andThen]
 exact hK' _ _ hK
theorem qmH (hg:o.guard=none) (it:Operand) (hop:o.op=Op.next it false) (r bm since c0:Nat) (seen:Array Nat) (es:Array MapEntry) (clock:Nat) (hit:a.eval it = .pointer (some ⟨r,0,none⟩))
  (hr:w.heap[r]?=some (.mapIter (some bm) since seen c0)) (hb:w.heap[bm]?=some (.map es clock)) (hold:∀ x∈es.toList,x.born < since) (hsc:since <= c0) (hn:(es.toList.map (·.born)).Nodup)
  (hDone:Hid ((leftOf es seen).size=0)->wpList P ops Q rest (a.put o.dst (.tuple #[.bool false])) w)
  (hMore:∀ e,Hid (e∈es.toList /\ seen.contains e.born=false)->∀ w',w'.heap[r]?=some (.mapIter (some bm) since (seen.push e.born) clock)->w.grownBy w' (some r)->(Instr.entry (.pointer (some ⟨r,0,none⟩))).run P w' = .ok (.tuple #[e.key,e.val]) w'->wpList P ops Q rest (a.put o.dst (.tuple #[.bool true,e.key,e.val])) w') :
  wpList P ops Q (o::rest) a w:=by
 refine wpList_plain hg fun K' hK' => ?_
 unfold Oper.wp
 rcases run_next_at (P:=P) w o.type r bm since c0 seen es clock hr hb hold hsc with ⟨h0,hrun⟩ | ⟨e,he,w1,hw1,hrun⟩
 ·simp [execOp,hop,hit,hrun,Result.andThen]
  exact hK' _ _ (hDone h0)
 ·have hrb:r≠bm:=by
   intro e0
   rw [e0,hb] at hr
   cases hr
  have hr1:w1.heap[r]?=some (.mapIter (some bm) since seen c0):=by rcases hw1 with rfl | rfl <;> exact hr
  have hb1:w1.heap[bm]?=some (.map es clock):=by rcases hw1 with rfl | rfl <;> exact hb
  unfold leftOf at he
  simp only [Array.toList_filter,List.mem_filter,Bool.not_eq_true'] at he
  have hr2:=(MapKept.heap_set (o' := .mapIter (some bm) since (seen.push e.born) clock) hr1).1
  have hb2:(ChangeMaps.setBlock w1 r (.mapIter (some bm) since (seen.push e.born) clock)).heap[bm]?=some (.map es clock):=by
   rw [<- hb1]
   exact (MapKept.heap_set (o' := .mapIter (some bm) since (seen.push e.born) clock) hr1).2 bm (fun e0=>hrb e0.symm)
  have hg1:w.grownBy (ChangeMaps.setBlock w1 r (.mapIter (some bm) since (seen.push e.born) clock)) (some r):=by
   have g1:w1.grownBy (ChangeMaps.setBlock w1 r (.mapIter (some bm) since (seen.push e.born) clock)) (some r):=qfx hr1
   rcases hw1 with rfl | rfl
   ·exact g1
   ·exact ⟨g1.1,g1.2,g1.3,g1.4,g1.5⟩
  have hen:=run_entry_at (P:=P) (ChangeMaps.setBlock w1 r (.mapIter (some bm) since (seen.push e.born) clock)) r bm since seen es clock e hr2 hb2 he.1 hn
  simp [execOp,hop,hit,hrun,Result.andThen]
  exact hK' _ _ (hMore e he _ hr2 hg1 hen)
end
end Go.Proofs.YthpdlbcdbncnhaaGreatDoor
namespace Go.Proofs.YthpdlbcdbncnhaaGreatDoor
set_option maxRecDepth 100000
open Go.RowKit
attribute [local go_sem] Keeps.refl Keeps.alloc Keeps.drew Keeps.drewN
abbrev qdM:ByteArray:=⟨#[97,108,111,110,101]⟩
abbrev qd4:ByteArray:=⟨#[98,101,115,116]⟩
abbrev nDue:ByteArray:=⟨#[100,117,101]⟩
abbrev qd5:ByteArray:=⟨#[102,97,105,114]⟩
abbrev qeB:ByteArray:=⟨#[116,117,114,110,115]⟩
abbrev jf (f sb:Nat):Value := .func (.func f) #[] #[.pointer (some ⟨sb,0,none⟩)]
abbrev qcl (sb:Nat):Array MapEntry:=#[⟨.string qdM,jf 162 sb,0⟩,⟨.string qd4,jf 163 sb,1⟩,⟨.string nDue,jf 164 sb,2⟩,⟨.string qd5,jf 165 sb,3⟩,⟨.string qeB,jf 166 sb,4⟩]
theorem qhV (sb:Nat):∀ x∈(qcl sb).toList,x.born < 5:=by
 intro x hx
 simp only [List.mem_cons,List.not_mem_nil,or_false] at hx
 rcases hx with rfl | rfl | rfl | rfl | rfl <;> simp
theorem qmI (sb:Nat):((qcl sb).toList.map (·.born)).Nodup:=by
 show [0,1,2,3,4].Nodup
 decide
def qbk (s:Sy):Nat->Bool
 | 2=>s.missed==0
 | 3=>qa0 s
 | 4=>qaJ s
 | _=>true
theorem qhW {s:Sy} (R:SysR s):qb1 s=(qbk s 2&&(qbk s 3&&qbk s 4)):=by
 have c1:=qbh.2 R
 have e1:qbs s=true:=by unfold qbs;rw [c1,qd1];rfl
 have e2:qbt s=true:=by unfold qbt;rw [c1,qez R];rfl
 have e3:qbD s=(s.missed==0):=by unfold qbD;rw [c1];rfl
 unfold qb1 qbk
 rw [e1,e2,e3]
 simp only [Bool.and_true]
 cases qaJ s <;> cases qa0 s <;> cases (s.missed==0) <;> rfl
theorem qmJ (s:Sy) (v:Sv) (w:World) :
  Calls Tryz.prog 117 #[.agg (syc s v)] w fun e w'=>∃ sb mb,e = .returned (.map (some mb)) /\ Blk w' sb (syc s v) /\ w'.heap[mb]?=some (.map (qcl sb) 5) /\ Keeps w w':=by
 have kW:=blkK w (.cells (syc s v) 37)
 have hB:Hid (Blk (w.alloc (.cells (syc s v) 37)) w.heap.size (syc s v)):=Blk.new _ _ _
 have hz:Hid ((w.alloc (.cells (syc s v) 37)).heap.size=w.heap.size+1):=by show _=_;simp
 go_enter Tryz.func117,Tryz.ntmps117
 go_upto_region 1 with fail
 generalize w.alloc (.cells (syc s v) 37)=W at *
 have hM0:Hid ((W.alloc (.map #[] 0)).heap[W.heap.size]?=some (.map #[] 0)):=(MapKept.heap_alloc W _).1
 have kM:Keeps W (W.alloc (.map #[] 0)):=(Keeps.refl W).alloc _
 have hmk:(Instr.makeMap 154 none).run Tryz.prog W = .ok (.map (some W.heap.size)) (W.alloc (.map #[] 0)):=by simp [Instr.makeMap]
 go_wp2_with (first
  | (refine qeA rfl _ _ _ 154 rfl 9 156 Tryz.underlying154 Tryz.underlying9 W.heap.size _ _ rfl hM0.out qdM rfl (jf 162 w.heap.size) rfl rfl ?_;intro w1 m1 g1;have M1:Hid (w1.heap[W.heap.size]?=some (.map #[⟨.string qdM,jf 162 w.heap.size,0⟩] 1)):=m1;clear m1 hM0)
  | (refine qeA rfl _ _ _ 154 rfl 9 156 Tryz.underlying154 Tryz.underlying9 W.heap.size _ _ rfl M1.out qd4 rfl (jf 163 w.heap.size) rfl rfl ?_;intro w2 m2 g2;have M2:Hid (w2.heap[W.heap.size]?=some (.map #[⟨.string qdM,jf 162 w.heap.size,0⟩,⟨.string qd4,jf 163 w.heap.size,1⟩] 2)):=m2;clear m2 M1)
  | (refine qeA rfl _ _ _ 154 rfl 9 156 Tryz.underlying154 Tryz.underlying9 W.heap.size _ _ rfl M2.out nDue rfl (jf 164 w.heap.size) rfl rfl ?_;intro w3 m3 g3;have M3:Hid (w3.heap[W.heap.size]?=some (.map #[⟨.string qdM,jf 162 w.heap.size,0⟩,⟨.string qd4,jf 163 w.heap.size,1⟩,⟨.string nDue,jf 164 w.heap.size,2⟩] 3)):=m3;clear m3 M2)
  | (refine qeA rfl _ _ _ 154 rfl 9 156 Tryz.underlying154 Tryz.underlying9 W.heap.size _ _ rfl M3.out qd5 rfl (jf 165 w.heap.size) rfl rfl ?_;intro w4 m4 g4;have M4:Hid (w4.heap[W.heap.size]?=some (.map #[⟨.string qdM,jf 162 w.heap.size,0⟩,⟨.string qd4,jf 163 w.heap.size,1⟩,⟨.string nDue,jf 164 w.heap.size,2⟩,⟨.string qd5,jf 165 w.heap.size,3⟩] 4)):=m4;clear m4 M3)
  | (refine qeA rfl _ _ _ 154 rfl 9 156 Tryz.underlying154 Tryz.underlying9 W.heap.size _ _ rfl M4.out qeB rfl (jf 166 w.heap.size) rfl rfl ?_;intro w5 m5 g5;have M5:Hid (w5.heap[W.heap.size]?=some (.map #[⟨.string qdM,jf 162 w.heap.size,0⟩,⟨.string qd4,jf 163 w.heap.size,1⟩,⟨.string nDue,jf 164 w.heap.size,2⟩,⟨.string qd5,jf 165 w.heap.size,3⟩,⟨.string qeB,jf 166 w.heap.size,4⟩] 5)):=m5;clear m5 M4))
 have K5:Keeps W w5:=((((kM.grown g1 (by intro k hk;cases hk;exact Nat.le_refl _)).grown g2 (by intro k hk;cases hk;exact Nat.le_refl _)).grown g3 (by intro k hk;cases hk;exact Nat.le_refl _)).grown g4 (by intro k hk;cases hk;exact Nat.le_refl _)).grown g5 (by intro k hk;cases hk;exact Nat.le_refl _)
 go_ret
 exact ⟨_,_,rfl,hB.out.keeps K5,M5.out,kW.trans K5⟩
theorem qmK {w:World} {v:Sv} {s:Sy} {sb:Nat} (h:SysOn w v s) (R:SysR s) (B:Blk w sb (syc s v)) :
  (Calls Tryz.prog 162 #[.pointer (some ⟨sb,0,none⟩)] w fun e w'=>e = .returned (.bool (qbk s 0)) /\ Keeps w w') /\
  (Calls Tryz.prog 163 #[.pointer (some ⟨sb,0,none⟩)] w fun e w'=>e = .returned (.bool (qbk s 1)) /\ Keeps w w') /\
  (Calls Tryz.prog 164 #[.pointer (some ⟨sb,0,none⟩)] w fun e w'=>e = .returned (.bool (qbk s 2)) /\ Keeps w w') /\
  (Calls Tryz.prog 165 #[.pointer (some ⟨sb,0,none⟩)] w fun e w'=>e = .returned (.bool (qbk s 3)) /\ Keeps w w') /\
  (Calls Tryz.prog 166 #[.pointer (some ⟨sb,0,none⟩)] w fun e w'=>e = .returned (.bool (qbk s 4)) /\ Keeps w w'):=by
 have hb:∀ w',Keeps w w'->∀ j,w'.cell? ⟨sb,j,none⟩=(syc s v)[j]?:=fun w' k=>(B.keeps k).cells
 have C1:Hid (Calls Tryz.prog 63 #[.agg (syc s v)] w fun e w'=>e = .returned (.bool true) /\ Keeps w w'):=qhU h R
 have C2:Hid (Calls Tryz.prog 62 #[.agg (syc s v)] w fun e w'=>e = .returned (.bool true) /\ Keeps w w'):=qhT h R
 have C3:Hid (Calls Tryz.prog 60 #[.agg (syc s v)] w fun e w'=>e = .returned (.bool (s.missed==0)) /\ Keeps w w'):=qhR
 have C4:Hid (Calls Tryz.prog 61 #[.agg (syc s v)] w fun e w'=>e = .returned (.bool (qa0 s)) /\ Keeps w w'):=qhS h R
 have C5:Hid (Calls Tryz.prog 59 #[.agg (syc s v)] w fun e w'=>e = .returned (.bool (qaJ s)) /\ Keeps w w'):=qhQ h R
 clear h R B
 refine ⟨?_,?_,?_,?_,?_⟩
 ·go_enter Tryz.func162,Tryz.ntmps162
  go_wp2_with (go_at_call 63;refine C1.out.mono ?_;rintro e w1 ⟨rfl,k1⟩)
  go_ret
  exact ⟨rfl,k1⟩
 ·go_enter Tryz.func163,Tryz.ntmps163
  go_wp2_with (go_at_call 62;refine C2.out.mono ?_;rintro e w1 ⟨rfl,k1⟩)
  go_ret
  exact ⟨rfl,k1⟩
 ·go_enter Tryz.func164,Tryz.ntmps164
  go_wp2_with (go_at_call 60;refine C3.out.mono ?_;rintro e w1 ⟨rfl,k1⟩)
  go_ret
  exact ⟨rfl,k1⟩
 ·go_enter Tryz.func165,Tryz.ntmps165
  go_wp2_with (go_at_call 61;refine C4.out.mono ?_;rintro e w1 ⟨rfl,k1⟩)
  go_ret
  exact ⟨rfl,k1⟩
 ·go_enter Tryz.func166,Tryz.ntmps166
  go_wp2_with (go_at_call 59;refine C5.out.mono ?_;rintro e w1 ⟨rfl,k1⟩)
  go_ret
  exact ⟨rfl,k1⟩
structure Asks (W0:World) (s:Sy) (r mb sb:Nat) (seen:List Nat) (names:List ByteArray) (o:Value) (wr:World):Prop where
 it:wr.heap[r]?=some (.mapIter (some mb) 5 seen.toArray 5)
 mb:wr.heap[mb]?=some (.map (qcl sb) 5)
 own:qd2 wr (r+1) o names
 nod:seen.Nodup
 lt:∀ i∈seen,i < 5
 len:names.length <= seen.length
 says:names=[]->∀ i∈seen,qbk s i=true
 objects:names≠[]->∃ i,i < 5 /\ qbk s i=false
 keeps:Keeps W0 wr
theorem qhX {l:List Nat} (hn:l.Nodup) (h:∀ i∈l,i < 5):l.length <= 5:=by
 refine qeH 5 l.length (fun i=>l.getD i 0) (fun i hi => ?_) (fun i j hi hj e => ?_)
 ·have:=h _ (List.getElem_mem hi)
  rw [List.getD_eq_getElem?_getD,List.getElem?_eq_getElem hi,Option.getD_some]
  exact this
 ·simp only [List.getD_eq_getElem?_getD,List.getElem?_eq_getElem hi,List.getElem?_eq_getElem hj,Option.getD_some] at e
  exact (List.getElem_inj hn).1 e
theorem qmL {l:List Nat} {sb:Nat} (h:(leftOf (qcl sb) l.toArray).size=0):∀ i,i < 5->i∈l:=by
 intro i hi
 unfold leftOf at h
 have h1:∀ e∈(qcl sb).toList,l.toArray.contains e.born=true:=by
  intro e he
  cases hc:l.toArray.contains e.born
  ·have:e∈((qcl sb).filter fun e => !l.toArray.contains e.born):=by
    rw [Array.mem_filter]
    exact ⟨by simpa using he,by rw [hc];rfl⟩
   rw [Array.size_eq_zero_iff.1 h] at this
   simp at this
  ·rfl
 have h2:∃ e∈(qcl sb).toList,e.born=i:=by
  rcases (by omega:i=0∨i=1∨i=2∨i=3∨i=4) with rfl | rfl | rfl | rfl | rfl
  ·exact ⟨_,List.mem_of_getElem? (i:=0) rfl,rfl⟩
  ·exact ⟨_,List.mem_of_getElem? (i:=1) rfl,rfl⟩
  ·exact ⟨_,List.mem_of_getElem? (i:=2) rfl,rfl⟩
  ·exact ⟨_,List.mem_of_getElem? (i:=3) rfl,rfl⟩
  ·exact ⟨_,List.mem_of_getElem? (i:=4) rfl,rfl⟩
 obtain ⟨e,he,rfl⟩:=h2
 have:=h1 e he
 simpa using this
def qcz (w:World) (r:Nat):Nat:=match w.heap[r]? with
 | some (.mapIter _ _ seen _)=>seen.size
 | _=>0
theorem qmM {s:Sy} (R:SysR s) (h:∀ i,i < 5->qbk s i=true):qb1 s=true:=by
 rw [qhW R,h 2 (by omega),h 3 (by omega),h 4 (by omega)];rfl
theorem qmN {s:Sy} (R:SysR s) (h:∃ i,i < 5 /\ qbk s i=false):qb1 s=false:=by
 obtain ⟨i,hi,e⟩:=h
 rw [qhW R]
 rcases (by omega:i=0∨i=1∨i=2∨i=3∨i=4) with rfl | rfl | rfl | rfl | rfl
 ·cases e
 ·cases e
 ·rw [e];rfl
 ·rw [e];simp
 ·rw [e];simp
theorem Asks.step {W0:World} {s:Sy} {r mb sb:Nat} {seen:List Nat} {names:List ByteArray} {o:Value} {wr w1 w2:World} (h:Asks W0 s r mb sb seen names o wr) {i:Nat}
  (h1:w1.heap[r]?=some (.mapIter (some mb) 5 (seen++[i]).toArray 5)) (g:wr.grownBy w1 (some r)) (hr:W0.heap.size <= r) (hm:mb < r) (k:Keeps w1 w2) :
  w2.heap[r]?=some (.mapIter (some mb) 5 (seen++[i]).toArray 5) /\ w2.heap[mb]?=some (.map (qcl sb) 5) /\ qd2 w2 (r+1) o names /\ Keeps W0 w2:=by
 have hrl:r < w1.heap.size:=(Array.getElem?_eq_some_iff.1 h1).1
 have hml:mb < w1.heap.size:=by omega
 refine ⟨by rw [Below.block k r hrl,h1],by rw [Below.block k mb hml,g.block mb (Array.getElem?_eq_some_iff.1 h.mb).1 (by simp;omega)];exact h.mb,?_,(h.keeps.grown g (by intro q hq;cases hq;exact hr)).trans k⟩
 exact (h.own.same fun b hb=>by
   have:=h.own.ltb b hb
   exact g.block b (by omega) (by simp;omega)).keeps k
theorem Asks.seen1 {W0:World} {s:Sy} {r mb sb:Nat} {seen:List Nat} {names:List ByteArray} {o:Value} {wr:World} (h:Asks W0 s r mb sb seen names o wr) {i:Nat} (hi:i < 5) (hn:i ∉ seen) :
  (seen++[i]).Nodup /\ ∀ j∈seen++[i],j < 5:=by
 have hmem:i ∉ seen:=hn
 refine ⟨?_,?_⟩
 ·rw [List.nodup_append]
  exact ⟨h.nod,by simp,by intro a ha b hb;simp at hb;subst hb;exact fun e=>hmem (e ▸ ha)⟩
 ·intro j hj
  rcases List.mem_append.1 hj with hj | hj
  ·exact h.lt j hj
  ·simp at hj;omega
theorem Asks.yes {W0:World} {s:Sy} {r mb sb:Nat} {seen:List Nat} {names:List ByteArray} {o:Value} {wr w1 w2:World} (h:Asks W0 s r mb sb seen names o wr) {i:Nat} (hi:i < 5) (hn:i ∉ seen)
  (h1:w1.heap[r]?=some (.mapIter (some mb) 5 (seen++[i]).toArray 5)) (g:wr.grownBy w1 (some r)) (hr:W0.heap.size <= r) (hm:mb < r) (k:Keeps w1 w2) (hs:qbk s i=true):Asks W0 s r mb sb (seen++[i]) names o w2:=by
 obtain ⟨a1,a2,a3,a4⟩:=h.step h1 g hr hm k
 obtain ⟨b1,b2⟩:=h.seen1 hi hn
 refine ⟨a1,a2,a3,b1,b2,?_,?_,h.objects,a4⟩
 ·rw [List.length_append];have:=h.len;simp;omega
 ·intro he j hj
  rcases List.mem_append.1 hj with hj | hj
  ·exact h.says he j hj
  ·simp at hj;rw [hj];exact hs
theorem Asks.no {W0:World} {s:Sy} {r mb sb:Nat} {seen:List Nat} {names:List ByteArray} {o o':Value} {wr w1 w2 w3:World} (h:Asks W0 s r mb sb seen names o wr) {i:Nat} (hi:i < 5) (hn:i ∉ seen)
  (h1:w1.heap[r]?=some (.mapIter (some mb) 5 (seen++[i]).toArray 5)) (g:wr.grownBy w1 (some r)) (hr:W0.heap.size <= r) (hm:mb < r) (k:Keeps w1 w2) (hs:qbk s i=false) {x:ByteArray} (O:qd2 w3 (r+1) o' (names++[x])) (G:w2.grownBy w3 o.ownBlock):Asks W0 s r mb sb (seen++[i]) (names++[x]) o' w3:=by
 obtain ⟨a1,a2,a3,a4⟩:=h.step h1 g hr hm k
 obtain ⟨b1,b2⟩:=h.seen1 hi hn
 have ho:∀ q,o.ownBlock=some q->r+1 <= q:=fun q hq=>(a3.ltb q hq).1
 have far:∀ q,q <= r->some q≠o.ownBlock:=fun q hq e=>by have:=ho q e.symm;omega
 refine ⟨by rw [G.block r (Array.getElem?_eq_some_iff.1 a1).1 (far r (Nat.le_refl _))];exact a1,by rw [G.block mb (Array.getElem?_eq_some_iff.1 a2).1 (far mb (by omega))];exact a2,O,b1,b2,?_,fun he=>by simp at he,fun _=>⟨i,hi,hs⟩,a4.grown G fun q hq=>by have:=ho q hq;omega⟩
 rw [List.length_append,List.length_append];have:=h.len;simp;omega
set_option maxHeartbeats 8000000 in
theorem qmO {w:World} {v:Sv} {s:Sy} (h:SysOn w v s) (R:SysR s) :
  Calls Tryz.prog 75 #[.agg (syc s v)] w fun e w'=>∃ (a:Option Addr) (n cap:Nat),e = .returned (.slice a n cap) /\ ((n:Int)==0)=qb1 s /\ Keeps w w':=by
 have HR:Hid (SysR s):=R
 have kW:=blkK w (.cells (syc s v) 37)
 have hb:=blkR w (syc s v) 37
 have hS:Hid (SysOn (w.alloc (.cells (syc s v) 37)) v s):=h.keeps kW
 clear h R
 go_enter Tryz.func75,Tryz.ntmps75
 go_wp2_with fail
 generalize w.alloc (.cells (syc s v) 37)=W at *
 refine (qmJ s v W).mono ?_
 rintro e w1 ⟨sb,mb,rfl,B1,M1,k1⟩
 have HB:Hid (Blk w1 sb (syc s v)):=B1
 have HM:Hid (w1.heap[mb]?=some (.map (qcl sb) 5)):=M1
 have hml:mb < w1.heap.size:=(Array.getElem?_eq_some_iff.1 M1).1
 have S1:Hid (SysOn w1 v s):=hS.out.keeps k1
 have A0:Hid (Asks w1 s w1.heap.size mb sb [] [] (.slice none 0 0) (w1.alloc (.mapIter (some mb) 5 #[] 5))) :=
  ⟨(MapKept.heap_alloc w1 _).1,by rw [(MapKept.heap_alloc w1 _).2 mb hml];exact M1,World.ownsRow_nil _ _ _ _,List.nodup_nil,fun i hi=>by simp at hi,Nat.le_refl _,fun _ i hi=>by simp at hi,fun h=>absurd rfl h,(Keeps.refl _).alloc _⟩
 clear B1 M1 hS hb
 go_wp2_with (at_range;refine qmG rfl _ 154 rfl 9 156 Tryz.underlying154 mb (qcl sb) 5 rfl HM.out ?_)
 go_frame
 obtain ⟨r,Hr⟩:∃ r,Hid (w1.heap.size=r):=⟨_,rfl⟩
 rw [Hr.out] at A0 ⊢
 generalize w1.alloc (.mapIter (some mb) 5 #[] 5)=Y at *
 have hrm:mb < r:=by have:=Hr.out;omega
 have hr0:w1.heap.size <= r:=by have:=Hr.out;omega
 go_loopw [3] (fun o wr=>∃ (seen:List Nat) (names:List ByteArray),Hid (Asks w1 s r mb sb seen names o wr)) (fun _ wr=>5 - qcz wr r)
 case atStart=>exact ⟨[],[],A0⟩
 case round =>
  obtain ⟨seen,names,A⟩:=hrel
  clear A0
  obtain ⟨ao,co,rfl,-,-,-⟩:=Own.slice A.out.own qc8
  have hsl:seen.length <= 5:=qhX A.out.nod A.out.lt
  have hnl:names.length <= 5:=by have:=A.out.len;omega
  have hs0:qcz wr r=seen.length:=by unfold qcz;rw [A.out.it];simp
  go_wp2_with (at_next;refine qmH rfl _ rfl r mb 5 5 seen.toArray (qcl sb) 5 rfl A.out.it A.out.mb (qhV sb) (Nat.le_refl _) (qmI sb) ?_ ?_)
  ·intro h0
   have hall:=qmL (l:=seen) (sb:=sb) (by rw [h0.out];rfl)
   obtain ⟨n,Hn⟩:∃ n,Hid (names.length=n):=⟨_,rfl⟩
   have HO:Hid (qd2 wr (r+1) (.slice ao n co) names):=by rw [<- Hn.out];exact A.out.own
   have Hres:Hid (((n:Int)==0)=qb1 s):=by
    show _=_
    by_cases e:names=[]
    ·rw [qmM HR.out fun i hi=>A.out.says e i (hall i hi),<- Hn.out,e];rfl
    ·rw [qmN HR.out (A.out.objects e),<- Hn.out]
     have:names.length≠0:=fun h=>e (List.length_eq_zero_iff.1 h)
     simp;exact e
   have HK:Hid (Keeps w1 wr):=A.out.keeps
   rw [Hn.out]
   clear A hall hs0
   go_wp2_with (go_at_call 118;refine (qmF HO.out HK.out (by omega) hnl).mono ?_;rintro e w5 ⟨rfl,k5⟩)
   go_ret
   exact ⟨_,_,_,rfl,Hres.out,kW.trans (k1.trans k5)⟩
  ·intro e hem w2 h2 g2 hen
   obtain ⟨he,hn0⟩:=hem.out
   have hn:e.born ∉ seen:=by simpa using hn0
   clear hem hn0
   have hl5:seen.length < 5:=by
    obtain ⟨b1,b2⟩:=A.out.seen1 (i:=e.born) (qhV sb e (by simpa using he)) hn
    have h5:=qhX b1 b2
    rw [List.length_append] at h5
    exact h5
   have HA:Hid (w2.heap[r]?=some (.mapIter (some mb) 5 (seen++[e.born]).toArray 5)):=h2
   have HG:Hid (wr.grownBy w2 (some r)):=g2
   have K2:Keeps w1 w2:=A.out.keeps.grown g2 (by intro q hq;cases hq;exact hr0)
   have hss:∀ w3,Keeps w2 w3->qcz w3 r=seen.length+1:=fun w3 k3=>by
    unfold qcz
    rw [Below.block k3 r (Array.getElem?_eq_some_iff.1 h2).1,h2];simp
   have J:Hid _:=qmK (S1.out.keeps K2) HR.out (HB.out.keeps K2)
   clear h2 g2
   try simp only [List.mem_cons,List.not_mem_nil,or_false] at he
   rcases he with rfl | rfl | rfl | rfl | rfl
   ·go_wp2_with (go_at_call 162;refine (J.out.1).mono ?_;rintro e w3 ⟨rfl,k3⟩;dsimp only [qbk])
    exact ⟨⟨seen++[0],names,A.out.yes (by omega) hn HA.out HG.out hr0 hrm k3 rfl⟩,by rw [hss _ k3,hs0];omega⟩
   ·go_wp2_with (go_at_call 163;refine (J.out.2.1).mono ?_;rintro e w3 ⟨rfl,k3⟩;dsimp only [qbk])
    exact ⟨⟨seen++[1],names,A.out.yes (by omega) hn HA.out HG.out hr0 hrm k3 rfl⟩,by rw [hss _ k3,hs0];omega⟩
   ·obtain ⟨z,HJ⟩:∃ z,Hid (qbk s 2=z):=⟨_,rfl⟩
    cases z
    rotate_left
    ·go_wp2_with (go_at_call 164;refine (J.out.2.2.1).mono ?_;rintro e w3 ⟨rfl,k3⟩;rw [HJ.out])
     exact ⟨⟨seen++[2],names,A.out.yes (by omega) hn HA.out HG.out hr0 hrm k3 HJ.out⟩,by rw [hss _ k3,hs0];omega⟩
    ·go_wp2_with (first
      | (go_at_call 164;refine (J.out.2.2.1).mono ?_;rintro e w3 ⟨rfl,k3⟩;rw [HJ.out])
      | (at_builtin;(refine qcA rfl _ _ 97 rfl (r+1) 9 (.string ⟨#[]⟩) 1 16 stc Tryz.underlying97 (by kernel_rfl) rfl (by decide) qc8 qf2 _ names rfl ((A.out.step HA.out HG.out hr0 hrm (k3.alloc _)).2.2.1) (by have:=(Array.getElem?_eq_some_iff.1 HA.out).1;have:=k3.size;simp;omega) nDue _ 1 (Blk.new _ _ _) rfl (by unfold maxLen;omega) (by omega) ?_;intro v7 w7 o7 g7 f7)))
     have k7:qcz w7 r=seen.length+1:=by
      have a1:=(A.out.no (by omega) hn HA.out HG.out hr0 hrm (k3.alloc _) HJ.out o7 g7).it
      unfold qcz
      rw [a1];simp
     exact ⟨⟨seen++[2],names++[nDue],A.out.no (by omega) hn HA.out HG.out hr0 hrm (k3.alloc _) HJ.out o7 g7⟩,by rw [k7,hs0];omega⟩
   ·obtain ⟨z,HJ⟩:∃ z,Hid (qbk s 3=z):=⟨_,rfl⟩
    cases z
    rotate_left
    ·go_wp2_with (go_at_call 165;refine (J.out.2.2.2.1).mono ?_;rintro e w3 ⟨rfl,k3⟩;rw [HJ.out])
     exact ⟨⟨seen++[3],names,A.out.yes (by omega) hn HA.out HG.out hr0 hrm k3 HJ.out⟩,by rw [hss _ k3,hs0];omega⟩
    ·go_wp2_with (first
      | (go_at_call 165;refine (J.out.2.2.2.1).mono ?_;rintro e w3 ⟨rfl,k3⟩;rw [HJ.out])
      | (at_builtin;(refine qcA rfl _ _ 97 rfl (r+1) 9 (.string ⟨#[]⟩) 1 16 stc Tryz.underlying97 (by kernel_rfl) rfl (by decide) qc8 qf2 _ names rfl ((A.out.step HA.out HG.out hr0 hrm (k3.alloc _)).2.2.1) (by have:=(Array.getElem?_eq_some_iff.1 HA.out).1;have:=k3.size;simp;omega) qd5 _ 1 (Blk.new _ _ _) rfl (by unfold maxLen;omega) (by omega) ?_;intro v7 w7 o7 g7 f7)))
     have k7:qcz w7 r=seen.length+1:=by
      have a1:=(A.out.no (by omega) hn HA.out HG.out hr0 hrm (k3.alloc _) HJ.out o7 g7).it
      unfold qcz
      rw [a1];simp
     exact ⟨⟨seen++[3],names++[qd5],A.out.no (by omega) hn HA.out HG.out hr0 hrm (k3.alloc _) HJ.out o7 g7⟩,by rw [k7,hs0];omega⟩
   ·obtain ⟨z,HJ⟩:∃ z,Hid (qbk s 4=z):=⟨_,rfl⟩
    cases z
    rotate_left
    ·go_wp2_with (go_at_call 166;refine (J.out.2.2.2.2).mono ?_;rintro e w3 ⟨rfl,k3⟩;rw [HJ.out])
     exact ⟨⟨seen++[4],names,A.out.yes (by omega) hn HA.out HG.out hr0 hrm k3 HJ.out⟩,by rw [hss _ k3,hs0];omega⟩
    ·go_wp2_with (first
      | (go_at_call 166;refine (J.out.2.2.2.2).mono ?_;rintro e w3 ⟨rfl,k3⟩;rw [HJ.out])
      | (at_builtin;(refine qcA rfl _ _ 97 rfl (r+1) 9 (.string ⟨#[]⟩) 1 16 stc Tryz.underlying97 (by kernel_rfl) rfl (by decide) qc8 qf2 _ names rfl ((A.out.step HA.out HG.out hr0 hrm (k3.alloc _)).2.2.1) (by have:=(Array.getElem?_eq_some_iff.1 HA.out).1;have:=k3.size;simp;omega) qeB _ 1 (Blk.new _ _ _) rfl (by unfold maxLen;omega) (by omega) ?_;intro v7 w7 o7 g7 f7)))
     have k7:qcz w7 r=seen.length+1:=by
      have a1:=(A.out.no (by omega) hn HA.out HG.out hr0 hrm (k3.alloc _) HJ.out o7 g7).it
      unfold qcz
      rw [a1];simp
     exact ⟨⟨seen++[4],names++[qeB],A.out.no (by omega) hn HA.out HG.out hr0 hrm (k3.alloc _) HJ.out o7 g7⟩,by rw [k7,hs0];omega⟩
set_option maxHeartbeats 4000000 in
theorem qmP:qf1:=by
 intro w v s hg h
 have kW:=blkK w (.cells (syc s v) 37)
 have hb:=blkR w (syc s v) 37
 have hS:Hid (SysOn (w.alloc (.cells (syc s v) 37)) v s):=h.keeps kW
 have hG:Hid (GlobE (w.alloc (.cells (syc s v) 37))):=hg.keeps kW
 clear h hg
 go_enter Tryz.func30,Tryz.ntmps30
 go_wp2_with fail
 generalize w.alloc (.cells (syc s v) 37)=W at *
 refine (qeo W v s hG.out hS.out).mono ?_
 rintro e w1 ⟨rfl,k1⟩
 cases c1:sysB s
 ·have Hr:Hid (qb1 s=false):=by show _=_;unfold qb1 qaJ;rw [c1];rfl
  go_wp2
  go_ret
  exact ⟨by rw [Hr.out];rfl,kW.trans k1⟩
 have C:Hid (Calls Tryz.prog 75 #[.agg (syc s v)] w1 fun e w'=>∃ (a:Option Addr) (n cap:Nat),e = .returned (.slice a n cap) /\ ((n:Int)==0)=qb1 s /\ Keeps w1 w'):=qmO (hS.out.keeps k1) (qbh.1 c1)
 clear c1 hS hG
 go_wp2_with fail
 refine C.out.mono ?_
 rintro e w2 ⟨a,n,cap,rfl,hn,k2⟩
 have Hn:Hid (((n:Int)==0)=qb1 s):=hn
 clear C hn
 go_wp2
 go_ret
 exact ⟨by rw [<- Hn.out];rfl,kW.trans (k1.trans k2)⟩
end Go.Proofs.YthpdlbcdbncnhaaGreatDoor
