/-
  The judges as plain functions; of a right system two of the
-/
import Derived.Test.YthpdlbcdbncnhaaGreatDoorGSys4
import Derived.Test.YthpdlbcdbncnhaaGreatDoorGPure2
import Derived.Test.YthpdlbcdbncnhaaGreatDoorGTask3
import Derived.Test.YthpdlbcdbncnhaaGreatDoorGSys5
import Derived.Test.YthpdlbcdbncnhaaGreatDoorGPick2
import Derived.Deep.RegionHeld3
import Derived.Test.YthpdlbcdbncnhaaGreatDoorErrAs
namespace Go.Proofs.YthpdlbcdbncnhaaGreatDoor
set_option maxRecDepth 100000
open Go.RowKit
def qb0 (c i:Nat) (t:Tn):Bool:=t.cpu==((i % c:Nat):Int)&&((t.ctx==0)==(t.exe==0))
def qaJ (s:Sy):Bool:=sysB s&&(s.trace.length % s.cpus.toNat==0&&(List.range s.trace.length).all fun i=>qb0 s.cpus.toNat i (s.trace.getD i ⟨0,0,0⟩))
def qbD (s:Sy):Bool:=sysB s&&s.missed==0
def qbQ (s:Sy) (t:Tsk):Bool := !(t.cls==3)||(t.idle||inB (t.v - s.floors.getD t.cpu.toNat 0) 0 48)
def qa0 (s:Sy):Bool:=sysB s&&s.tasks.all (qbQ s)
def qdt (s:Sy) (t:Tsk):Bool := !(canB s.tasks s.locks t.no&&(decide (qaz s.tasks s.locks t.cpu < 0)||befB t (s.tasks.getD (qaz s.tasks s.locks t.cpu).toNat Tsk.zero)))
def qbs (s:Sy):Bool:=sysB s&&s.tasks.all (qdt s)
def qe3 (s:Sy) (j:Nat):Bool := !(decide (0 < qaA s.tasks s.locks j)&&(List.range j).any fun i=>qaA s.tasks s.locks i==qaA s.tasks s.locks j)
def qbt (s:Sy):Bool:=sysB s&&(List.range s.cpus.toNat).all (qe3 s)
def qb1 (s:Sy):Bool:=qaJ s&&(qbD s&&(qa0 s&&(qbs s&&qbt s)))
theorem qhI {ts:List Tsk} (h:qao ts=true) {i j:Nat} {a b:Tsk} (ha:ts[i]?=some a) (hb:ts[j]?=some b) (e:a.no=b.no):i=j:=by
 have hasc:ascB ts=true:=by
  simp only [qao,Bool.and_eq_true] at h
  exact h.1.2
 rcases Nat.lt_trichotomy i j with h1 | h1 | h1
 ·have:=qgt hasc j i a b h1 ha hb;omega
 ·exact h1
 ·have:=qgt hasc i j b a h1 hb ha;omega
theorem qd1 (s:Sy):s.tasks.all (qdt s)=true:=by
 rw [List.all_eq_true]
 intro t ht
 obtain ⟨i,hi⟩:=List.mem_iff_getElem?.1 ht
 unfold qdt
 cases hc:canB s.tasks s.locks t.no
 ·rfl
 have hcand:qbU s.tasks s.locks t.cpu t=true:=by simp [qbU,hc]
 rcases qee s.tasks (qbU s.tasks s.locks t.cpu) s.tasks.length (Nat.le_refl _) with ⟨_,h⟩ | ⟨j,u,e,_,hu,_,h⟩
 ·rw [h i t (qas hi) hi] at hcand
  cases hcand
 ·have hb:=h i t (qas hi) hi hcand
  have e':qaz s.tasks s.locks t.cpu=(j:Int):=e
  rw [e',Int.toNat_natCast,qce hu,hb]
  have:decide ((j:Int) < 0)=false:=by simp
  rw [this]
  rfl
theorem qhJ {ts:List Tsk} {ls:List Lk} (hl:ls.all (qbG ts)=true) (h0:qag ts 0=false):∀ (f:Nat) (no:Int),(∀ x∈(qam ls f no).1,qag ts x=true)->∀ x∈(qam ls f no).1,(tAt ts x).cpu=(tAt ts no).cpu
 | 0,no,_,x,hx=>by
  simp [qam] at hx
  rw [hx]
 | f+1,no,h,x,hx=>by
  cases hw:qax ls no with
  | none =>
   simp [qam,hw] at hx
   rw [hx]
  | some i =>
   obtain ⟨l,hl1,hl2,_⟩:=qda hw
   have ho:qaB ls i=l.owner:=qbS hl1
   simp only [qam,hw,List.mem_cons] at h hx
   rw [ho] at h hx
   have hlo:=List.all_eq_true.1 hl l (List.mem_of_getElem? hl1)
   have hin:l.owner∈(qam ls f l.owner).1:=by
    cases f with
    | zero=>simp [qam]
    | succ f =>
     simp only [qam]
     split <;> simp
   have hto:=h l.owner (.inr hin)
   have hz:(l.owner==0)=false:=by
    cases h2:(l.owner==0)
    ·rfl
    ·rw [beq_iff_eq] at h2
     rw [h2,h0] at hto
     cases hto
   unfold qbG at hlo
   rw [hz,Bool.false_or,Bool.and_eq_true,List.all_eq_true] at hlo
   have hno:no∈l.waits:=by
    unfold hasB at hl2
    simpa using hl2
   have hc:=hlo.2 no hno
   unfold qcf at hc
   simp only [Bool.and_eq_true,beq_iff_eq] at hc
   rcases hx with rfl | hx
   ·rfl
   ·rw [qhJ hl h0 f l.owner (fun y hy=>h y (.inr hy)) x hx,hc.2]
theorem qhK {s:Sy} (R:SysR s) {c:Int} (h:0 < qaA s.tasks s.locks c):(tAt s.tasks (qaA s.tasks s.locks c)).cpu=c:=by
 have h0:qag s.tasks 0=false:=by
  cases h:qag s.tasks 0
  ·rfl
  ·obtain ⟨k,t,-,ht,e⟩:=qbV.1 h
   have:=qct R.tasks ht
   unfold qae at this
   simp only [Bool.and_eq_true,qap] at this
   have:=this.1.1.1.1
   omega
 have hlk:=R.locks
 unfold qbo at hlk
 simp only [Bool.and_eq_true] at hlk
 unfold qaA at h ⊢
 split at h
 case isFalse=>omega
 case isTrue hp =>
  rw [if_pos hp]
  simp only [Bool.and_eq_true,Bool.not_eq_true',decide_eq_false_iff_not] at hp
  rcases qee s.tasks (qbU s.tasks s.locks c) s.tasks.length (Nat.le_refl _) with ⟨e,_⟩ | ⟨j,u,e,_,hu,hcu,_⟩
  ·exact absurd (show qaz s.tasks s.locks c < 0 from by unfold qaz;omega) hp.2
  ·have e':qaz s.tasks s.locks c=(j:Int):=e
   have en:noAt s.tasks (qaz s.tasks s.locks c)=u.no:=by
    unfold noAt
    rw [e',if_neg (by omega),Int.toNat_natCast,qce hu]
   rw [en] at h ⊢
   unfold qbU at hcu
   simp only [Bool.and_eq_true,beq_iff_eq] at hcu
   have hex:(qa6 s.tasks s.locks u.no != 0)=true:=by simp;omega
   obtain ⟨h1,h2,h3,-⟩:=qeL hex
   have hm:qcM (qbA s.locks u.no)∈qbA s.locks u.no:=List.mem_of_getElem? (qgi (qfg s.locks u.no))
   rw [h2,qhJ hlk.2.2 h0 _ u.no h1 _ hm,<- hcu.1]
   obtain ⟨k,t,ek,ht,en2⟩:=qbV.1 h3
   rw [qcE ek ht]
   have hjk:k=j:=qhI R.tasks ht hu (en2)
   subst hjk
   rw [ht] at hu
   cases hu
   rfl
theorem qez {s:Sy} (R:SysR s):(List.range s.cpus.toNat).all (qe3 s)=true:=by
 rw [List.all_eq_true]
 intro j _
 unfold qe3
 cases h:decide (0 < qaA s.tasks s.locks j)
 ·rfl
 ·rw [Bool.true_and,Bool.not_eq_true',List.any_eq_false]
  intro i hi e
  rw [beq_iff_eq] at e
  have hj:0 < qaA s.tasks s.locks j:=of_decide_eq_true h
  have h1:=qhK R hj
  have h2:=qhK R (c:=i) (by rw [e];exact hj)
  rw [e,h1] at h2
  rw [List.mem_range] at hi
  omega
end Go.Proofs.YthpdlbcdbncnhaaGreatDoor
namespace Go.Proofs.YthpdlbcdbncnhaaGreatDoor
set_option maxRecDepth 100000
open Go.RowKit
attribute [local go_sem] Keeps.refl Keeps.alloc Keeps.drew Keeps.drewN
theorem qfV {α:Type} (p:α->Bool) {xs:List α} {k:Nat} {x:α} (hx:xs[k]?=some x) (h:(xs.take k).all p=true) (hp:p x=true):(xs.take (k+1)).all p=true:=by
 rw [qb5 hx,List.all_append,h]
 simp [hp]
theorem qmi {α:Type} (p:α->Bool) {xs:List α} {k:Nat} {x:α} (hx:xs[k]?=some x) (hp:p x=false):xs.all p=false :=
 List.all_eq_false.2 ⟨x,List.mem_of_getElem? hx,by simp [hp]⟩
theorem qhL {s:Sy} (h:1 <= s.cpus) (k:Nat):(k:Int) % s.cpus=((k % s.cpus.toNat:Nat):Int):=by
 have e:s.cpus=(s.cpus.toNat:Int):=by omega
 conv=>lhs;rw [e]
 rfl
theorem qhM {p:Nat->Bool} {k:Nat} (h:(List.range k).all p=true) (hp:p k=true):(List.range (k+1)).all p=true:=by
 rw [List.range_succ,List.all_append,h]
 simp [hp]
theorem qe4 {p:Nat->Bool} {n k:Nat} (hk:k < n) (hp:p k=false):(List.range n).all p=false :=
 List.all_eq_false.2 ⟨k,List.mem_range.2 hk,by simp [hp]⟩
theorem SysR.floorIn {s:Sy} (h:SysR s) {c:Nat} {f:Int} (hf:s.floors[c]?=some f):0 <= f /\ f <= 100000000:=by
 have h1:=h.cpu c (by have:=qas hf;have:=h.floors;omega)
 unfold cpuB at h1
 simp only [Bool.and_eq_true] at h1
 have h2:=qap.1 h1.1
 rwa [qbM hf] at h2
theorem qmj {t:Tsk} (h:qae t=true) (c:(t.cls==3)=true):0 <= t.v /\ t.v <= 100000000:=by
 unfold qae at h
 simp only [Bool.and_eq_true] at h
 have h1:=h.2
 unfold qba at h1
 rw [beq_iff_eq] at c
 rw [c,if_neg (by decide),if_neg (by decide),Bool.and_eq_true] at h1
 exact qap.1 h1.2
set_option maxHeartbeats 4000000 in
theorem qmk {w:World} {v:Sv} {s:Sy} (h:SysOn w v s) :
  Calls Tryz.prog 24 #[.agg (syc s v)] w fun e w'=>e = .returned (.bool (qaJ s)) /\ Keeps w w':=by
 obtain ⟨vt,vl,vg,vf,⟨ra,rn,rcap⟩⟩:=v
 have hm:rn <= 2000000:=by have h1:=h.size;have h2:s.trace.length=rn:=h.lay.rl;unfold qaj at h1;omega
 have Hn:Hid (s.trace.length=rn):=h.lay.rl
 have kW:=blkK w (.cells (syc s ⟨vt,vl,vg,vf,⟨ra,rn,rcap⟩⟩) 37)
 have hb:=blkR w (syc s ⟨vt,vl,vg,vf,⟨ra,rn,rcap⟩⟩) 37
 have hS:Hid (SysOn (w.alloc (.cells (syc s ⟨vt,vl,vg,vf,⟨ra,rn,rcap⟩⟩) 37)) ⟨vt,vl,vg,vf,⟨ra,rn,rcap⟩⟩ s):=h.keeps kW
 have hs1:Hid (Rs (w.alloc (.cells (syc s ⟨vt,vl,vg,vf,⟨ra,rn,rcap⟩⟩) 37)) ra s.trace):=hS.out.lay.r
 clear h
 go_enter Tryz.func24,Tryz.ntmps24
 go_wp2_with fail
 generalize w.alloc (.cells (syc s ⟨vt,vl,vg,vf,⟨ra,rn,rcap⟩⟩) 37)=W at *
 refine (qdf hS.out).mono ?_
 rintro e w1 ⟨rfl,k1⟩
 cases c1:sysB s
 ·have Hr:Hid (qaJ s=false):=by show _=_;unfold qaJ;rw [c1];rfl
  go_wp2
  go_ret
  exact ⟨by rw [Hr.out];rfl,kW.trans k1⟩
 have hcp:1 <= s.cpus:=(qbh.1 c1).cpus.1
 have hc0:s.cpus≠0:=by omega
 have HM:Hid (∀ k:Nat,(k:Int) % s.cpus=((k % s.cpus.toNat:Nat):Int)):=qhL hcp
 have HE:Hid (qaJ s=(s.trace.length % s.cpus.toNat==0&&(List.range rn).all fun i=>qb0 s.cpus.toNat i (s.trace.getD i ⟨0,0,0⟩))):=by show _=_;unfold qaJ;rw [c1,Hn.out];rfl
 cases c2:((rn:Int) % s.cpus != 0)
 rotate_left
 ·have Hr:Hid (qaJ s=false):=by
   have e:(s.trace.length % s.cpus.toNat==0)=false:=by
    rw [HM.out] at c2
    rw [Hn.out]
    simp only [bne_iff_ne,ne_eq,beq_eq_false_iff_ne] at c2 ⊢
    omega
   show _=_
   rw [HE.out,e];rfl
  go_wp2
  go_ret
  exact ⟨by rw [Hr.out];rfl,kW.trans k1⟩
 have HE2:Hid (qaJ s=(List.range rn).all fun i=>qb0 s.cpus.toNat i (s.trace.getD i ⟨0,0,0⟩)):=by
  have e:(s.trace.length % s.cpus.toNat==0)=true:=by
   rw [HM.out] at c2
   rw [Hn.out]
   simp only [bne_eq_false_iff_eq,beq_iff_eq] at c2 ⊢
   omega
  show _=_
  rw [HE.out,e];rfl
 clear HE c1 hS
 go_wp2_with fail
 clear c2
 go_loopw [3] (fun i wr=>∃ k:Nat,k <= rn /\ i = .int .i64 k /\ Hid (((List.range k).all fun i=>qb0 s.cpus.toNat i (s.trace.getD i ⟨0,0,0⟩))=true) /\ Keeps W wr) (fun i _=>rn - (intOf i).toNat)
 case atStart=>exact ⟨0,Nat.zero_le _,rfl,by show _=_;simp,k1⟩
 case round =>
  obtain ⟨k,hk,rfl,HA,hK⟩:=hrel
  clear k1
  by_cases hlt:k < rn
  ·obtain ⟨t,ht⟩:=qai (xs:=s.trace) (k:=k) (by rw [Hn.out];exact hlt)
   obtain ⟨b,off,rfl,r0,r1⟩:=hs1.out.at ht (by omega)
   have hq0:(k:Int).tmod s.cpus=(k:Int) % s.cpus:=Int.tmod_eq_emod_of_nonneg (by omega)
   have hlt':(k:Int) < (rn:Int):=by omega
   have Hst:Hid (qb0 s.cpus.toNat k (s.trace.getD k ⟨0,0,0⟩)=(t.cpu==(k:Int) % s.cpus&&((t.ctx==0)==(t.exe==0)))):=by show _=_;rw [qbM ht,HM.out];rfl
   clear ht hs1
   go_upto_region 7 with fail
   have kX:Keeps W (wr.alloc (.cells (tnc t) 85)):=hK.alloc _
   have hX:=blkR wr (tnc t) 85
   have hb2:∀ w',Keeps (wr.alloc (.cells (tnc t) 85)) w'->∀ j,w'.cell? ⟨w.heap.size,j,none⟩=(syc s ⟨vt,vl,vg,vf,⟨some ⟨b,off,none⟩,rn,rcap⟩⟩)[j]?:=fun w' h=>hb w' (kX.trans h)
   change Code.wp _ _ _ _ (wr.alloc (.cells (tnc t) 85))
   clear r0 r1 hb
   generalize wr.alloc (.cells (tnc t) 85)=X at *
   cases q1:(t.cpu != (k:Int) % s.cpus)
   rotate_left
   ·have Hr:Hid (qaJ s=false):=by
     have e:qb0 s.cpus.toNat k (s.trace.getD k ⟨0,0,0⟩)=false:=by
      rw [Hst.out]
      have:(t.cpu==(k:Int) % s.cpus)=false:=by simpa [bne] using q1
      rw [this];rfl
     show _=_
     rw [HE2.out,qe4 hlt e]
    refine wp_region_held_drew (S:=(fun w'=>Keeps X w')) (by kernel_rfl) ?_ (fun hHeld => ?_)
    ·exact (Keeps.refl X).drew
    refine Plan.go [0,1,2,3,4,5,6,7] ?_
    iterate 8 (refine qac (by simp only [qab];rfl) (by kernel_rfl) (by exact fun _ _ _ h=>h) (by rfl) (by assumption) (fun w _=>by go_simp;try (with_reducible rfl)) ?_;try simp only [qaa])
    refine Plan.nil ?_
    refine Plan.go [8,9,10,11,12,13,14] ?_
    iterate 7 (refine qaq (by simp only [qab];rfl) (by kernel_rfl) (by exact fun _ _ _ h=>h) (by rfl) (by assumption) ?_;try simp only [qaa])
    refine Plan.nil ?_
    refine qan 15 (v := ?_) (by simp only [qab];rfl) (by kernel_rfl) (by exact fun _ _ _ h=>h) (by rfl) (by assumption) ?_ ?_
    rotate_left
    ·(intro w _;go_simp;try (with_reducible rfl))
    try simp only [qaa]
    refine wpAnyH_done (by kernel_rfl) ?_ _
    go_wp2
    go_ret
    exact ⟨by rw [Hr.out];rfl,kW.trans kX.drew⟩
   have e1:(t.cpu==(k:Int) % s.cpus)=true:=by simpa [bne] using q1
   cases q2:(!((t.ctx==0)==(t.exe==0)))
   ·have HA2:Hid (((List.range (k+1)).all fun i=>qb0 s.cpus.toNat i (s.trace.getD i ⟨0,0,0⟩))=true):=qhM HA.out (by
     rw [Hst.out,e1]
     simpa using q2)
    clear Hst HE2 e1
    refine wp_region_held_drew (S:=(fun w'=>Keeps X w')) (by kernel_rfl) ?_ (fun hHeld => ?_)
    ·exact (Keeps.refl X).drew
    refine Plan.go [0,1,2,3,4,5,6,7,8,9,10,11,12,13,14,15] ?_
    iterate 16 (refine qac (by simp only [qab];rfl) (by kernel_rfl) (by exact fun _ _ _ h=>h) (by rfl) (by assumption) (fun w _=>by go_simp;try (with_reducible rfl)) ?_;try simp only [qaa])
    refine Plan.nil ?_
    refine wpAnyH_done (by kernel_rfl) ?_ _
    go_wp2
    exact ⟨⟨k+1,by omega,by go_num,HA2,kX.drew⟩,by simp only [intOf];omega⟩
   ·have Hr:Hid (qaJ s=false):=by
     have e:qb0 s.cpus.toNat k (s.trace.getD k ⟨0,0,0⟩)=false:=by
      rw [Hst.out,e1]
      simpa using q2
     show _=_
     rw [HE2.out,qe4 hlt e]
    clear Hst e1
    refine wp_region_held_drew (S:=(fun w'=>Keeps X w')) (by kernel_rfl) ?_ (fun hHeld => ?_)
    ·exact (Keeps.refl X).drew
    refine Plan.go [0,1,2,3,4,5,6,7,8,9,10,11,12,13,14,15] ?_
    iterate 16 (refine qac (by simp only [qab];rfl) (by kernel_rfl) (by exact fun _ _ _ h=>h) (by rfl) (by assumption) (fun w _=>by go_simp;try (with_reducible rfl)) ?_;try simp only [qaa])
    refine Plan.nil ?_
    refine wpAnyH_done (by kernel_rfl) ?_ _
    go_wp2
    go_ret
    exact ⟨by rw [Hr.out];rfl,kW.trans kX.drew⟩
  ·have hlt':decide ((k:Int) < (rn:Int))=false:=by simp;omega
   have Hr:Hid (qaJ s=true):=by
    show _=_
    rw [HE2.out,show rn=k from by omega,HA.out]
   go_wp2
   go_ret
   exact ⟨by rw [Hr.out];rfl,kW.trans hK⟩
set_option maxHeartbeats 2000000 in
theorem qml {w:World} {v:Sv} {s:Sy} (h:SysOn w v s) :
  Calls Tryz.prog 25 #[.agg (syc s v)] w fun e w'=>e = .returned (.bool (qbD s)) /\ Keeps w w':=by
 have kW:=blkK w (.cells (syc s v) 37)
 have hb:=blkR w (syc s v) 37
 have hS:Hid (SysOn (w.alloc (.cells (syc s v) 37)) v s):=h.keeps kW
 clear h
 go_enter Tryz.func25,Tryz.ntmps25
 go_wp2_with fail
 generalize w.alloc (.cells (syc s v) 37)=W at *
 refine (qdf hS.out).mono ?_
 rintro e w1 ⟨rfl,k1⟩
 cases c1:sysB s
 ·have Hr:Hid (qbD s=false):=by show _=_;unfold qbD;rw [c1];rfl
  go_wp2
  go_ret
  exact ⟨by rw [Hr.out];rfl,kW.trans k1⟩
 have Hr:Hid (qbD s=(s.missed==0)):=by show _=_;unfold qbD;rw [c1];rfl
 clear c1 hS
 go_wp2
 go_ret
 exact ⟨by rw [Hr.out];rfl,kW.trans k1⟩
set_option maxHeartbeats 4000000 in
theorem qmm {w:World} {v:Sv} {s:Sy} (h:SysOn w v s) :
  Calls Tryz.prog 26 #[.agg (syc s v)] w fun e w'=>e = .returned (.bool (qa0 s)) /\ Keeps w w':=by
 obtain ⟨⟨ta,tn,tcap⟩,vl,vg,⟨fa,fn,fcap⟩,vr⟩:=v
 have hm:tn <= 2000000:=by have h1:=h.size;have h2:s.tasks.length=tn:=h.lay.tl;unfold qaj at h1;omega
 have Hn:Hid (s.tasks.length=tn):=h.lay.tl
 have Hfn:Hid (s.floors.length=fn):=h.lay.fl
 have kW:=blkK w (.cells (syc s ⟨⟨ta,tn,tcap⟩,vl,vg,⟨fa,fn,fcap⟩,vr⟩) 37)
 have hb:=blkR w (syc s ⟨⟨ta,tn,tcap⟩,vl,vg,⟨fa,fn,fcap⟩,vr⟩) 37
 have hS:Hid (SysOn (w.alloc (.cells (syc s ⟨⟨ta,tn,tcap⟩,vl,vg,⟨fa,fn,fcap⟩,vr⟩) 37)) ⟨⟨ta,tn,tcap⟩,vl,vg,⟨fa,fn,fcap⟩,vr⟩ s):=h.keeps kW
 have hs1:Hid (Ts (w.alloc (.cells (syc s ⟨⟨ta,tn,tcap⟩,vl,vg,⟨fa,fn,fcap⟩,vr⟩) 37)) ta s.tasks):=hS.out.lay.t
 have hs2:Hid (Ns (w.alloc (.cells (syc s ⟨⟨ta,tn,tcap⟩,vl,vg,⟨fa,fn,fcap⟩,vr⟩) 37)) fa s.floors):=hS.out.lay.f
 clear h
 go_enter Tryz.func26,Tryz.ntmps26
 go_wp2_with fail
 generalize w.alloc (.cells (syc s ⟨⟨ta,tn,tcap⟩,vl,vg,⟨fa,fn,fcap⟩,vr⟩) 37)=W at *
 refine (qdf hS.out).mono ?_
 rintro e w1 ⟨rfl,k1⟩
 cases c1:sysB s
 ·have Hr:Hid (qa0 s=false):=by show _=_;unfold qa0;rw [c1];rfl
  go_wp2
  go_ret
  exact ⟨by rw [Hr.out];rfl,kW.trans k1⟩
 have HR:Hid (SysR s):=qbh.1 c1
 have HE:Hid (qa0 s=s.tasks.all (qbQ s)):=by show _=_;unfold qa0;rw [c1];rfl
 clear c1 hS
 go_wp2_with fail
 go_loopw [3] (fun i wr=>∃ k:Nat,k <= tn /\ i = .int .i64 k /\ Hid ((s.tasks.take k).all (qbQ s)=true) /\ Keeps W wr) (fun i _=>tn - (intOf i).toNat)
 case atStart=>exact ⟨0,Nat.zero_le _,rfl,by show _=_;simp,k1⟩
 case round =>
  obtain ⟨k,hk,rfl,HA,hK⟩:=hrel
  clear k1
  by_cases hlt:k < tn
  ·obtain ⟨t,ht⟩:=qai (xs:=s.tasks) (k:=k) (by rw [Hn.out];exact hlt)
   obtain ⟨b,off,rfl,r0,r1⟩:=hs1.out.at ht (by omega)
   have hlt':(k:Int) < (tn:Int):=by omega
   have hcp:=HR.out.onCpus t (List.mem_of_getElem? ht)
   obtain ⟨c,hc,hcl⟩:∃ c:Nat,t.cpu=(c:Int) /\ c < fn:=⟨t.cpu.toNat,by omega,by have:=Hfn.out;omega⟩
   have hcl':(c:Int) < (fn:Int):=by omega
   obtain ⟨f,hf⟩:=qai (xs:=s.floors) (k:=c) (by rw [Hfn.out];exact hcl)
   obtain ⟨fb,fo,rfl,rf0⟩:=hs2.out.at hf
   have Hfr:Hid (0 <= f /\ f <= 100000000):=HR.out.floorIn hf
   have Hvr:Hid ((t.cls==3)=true->0 <= t.v /\ t.v <= 100000000):=qmj (qct HR.out.tasks ht)
   have Hok:Hid (qbQ s t=(!(t.cls==3)||(t.idle||inB (t.v - f) 0 48))):=by show _=_;unfold qbQ;rw [hc,Int.toNat_natCast,qbM hf]
   have Ht:Hid (s.tasks[k]?=some t):=ht
   have hrf:∀ w',Keeps W w'->w'.cell? ⟨fb,fo+c,none⟩=some (.int .i64 f):=rf0
   clear ht hf rf0 hs1 hs2
   obtain ⟨u,rfl⟩:∃ u:Tsk,t={ u with cpu:=(c:Int) }:=⟨t,by rw [<- hc]⟩
   clear hc hcp
   go_upto_region 7 with fail
   have kX:Keeps W (wr.alloc (.cells (tc { u with cpu:=(c:Int) }) 47)):=hK.alloc _
   have hX:=blkR wr (tc { u with cpu:=(c:Int) }) 47
   have hb2:∀ w',Keeps (wr.alloc (.cells (tc { u with cpu:=(c:Int) }) 47)) w'->∀ j,w'.cell? ⟨w.heap.size,j,none⟩=(syc s ⟨⟨some ⟨b,off,none⟩,tn,tcap⟩,vl,vg,⟨some ⟨fb,fo,none⟩,fn,fcap⟩,vr⟩)[j]?:=fun w' h=>hb w' (kX.trans h)
   have hf2:∀ w',Keeps (wr.alloc (.cells (tc { u with cpu:=(c:Int) }) 47)) w'->w'.cell? ⟨fb,fo+c,none⟩=some (.int .i64 f):=fun w' h=>hrf w' (kX.trans h)
   change Code.wp _ _ _ _ (wr.alloc (.cells (tc { u with cpu:=(c:Int) }) 47))
   clear r0 r1 hb hrf
   generalize wr.alloc (.cells (tc { u with cpu:=(c:Int) }) 47)=X at *
   cases q1:(u.cls==3)
   ·have HA2:Hid ((s.tasks.take (k+1)).all (qbQ s)=true):=qfV _ Ht.out HA.out (by rw [Hok.out];simp [q1])
    clear Hok HE Ht
    refine wp_region_held_drew (S:=(fun w'=>Keeps X w')) (by kernel_rfl) ?_ (fun hHeld => ?_)
    ·exact (Keeps.refl X).drew
    refine Plan.go [0,1,2,3] ?_
    iterate 4 (refine qac (by simp only [qab];rfl) (by kernel_rfl) (by exact fun _ _ _ h=>h) (by rfl) (by assumption) (fun w _=>by go_simp;try (with_reducible rfl)) ?_;try simp only [qaa])
    refine Plan.nil ?_
    refine Plan.go [4,5,6] ?_
    iterate 3 (refine qaq (by simp only [qab];rfl) (by kernel_rfl) (by exact fun _ _ _ h=>h) (by rfl) (by assumption) ?_;try simp only [qaa])
    refine Plan.nil ?_
    refine Plan.go [7,8] ?_
    iterate 2 (refine qac (by simp only [qab];rfl) (by kernel_rfl) (by exact fun _ _ _ h=>h) (by rfl) (by assumption) (fun w _=>by go_simp;try (with_reducible rfl)) ?_;try simp only [qaa])
    refine Plan.nil ?_
    refine Plan.go [9,10,11,12,13,14,15,16,17,18,19] ?_
    iterate 11 (refine qaq (by simp only [qab];rfl) (by kernel_rfl) (by exact fun _ _ _ h=>h) (by rfl) (by assumption) ?_;try simp only [qaa])
    refine Plan.nil ?_
    refine qan 20 (v := ?_) (by simp only [qab];rfl) (by kernel_rfl) (by exact fun _ _ _ h=>h) (by rfl) (by assumption) ?_ ?_
    rotate_left
    ·(intro w _;go_simp;try (with_reducible rfl))
    try simp only [qaa]
    refine wpAnyH_done (by kernel_rfl) ?_ _
    go_wp2
    exact ⟨⟨k+1,by omega,by go_num,HA2,kX.drew⟩,by simp only [intOf];omega⟩
   have e2:IntKind.i64.wrap (u.v - f)=u.v - f:=Go.IntWalk.i64_in _ (by have h1:=Hvr.out q1;have h2:=Hfr.out;simp only at h1;omega)
   cases q2:u.idle
   rotate_left
   ·have HA2:Hid ((s.tasks.take (k+1)).all (qbQ s)=true):=qfV _ Ht.out HA.out (by rw [Hok.out];simp [q2])
    clear Hok HE Ht
    refine wp_region_held_drew (S:=(fun w'=>Keeps X w')) (by kernel_rfl) ?_ (fun hHeld => ?_)
    ·exact (Keeps.refl X).drew
    refine Plan.go [0,1,2,3,4,5,6,7,8] ?_
    iterate 9 (refine qac (by simp only [qab];rfl) (by kernel_rfl) (by exact fun _ _ _ h=>h) (by rfl) (by assumption) (fun w _=>by go_simp;try (with_reducible rfl)) ?_;try simp only [qaa])
    refine Plan.nil ?_
    refine Plan.go [9,10,11,12,13,14,15,16,17,18,19] ?_
    iterate 11 (refine qaq (by simp only [qab];rfl) (by kernel_rfl) (by exact fun _ _ _ h=>h) (by rfl) (by assumption) ?_;try simp only [qaa])
    refine Plan.nil ?_
    refine qan 20 (v := ?_) (by simp only [qab];rfl) (by kernel_rfl) (by exact fun _ _ _ h=>h) (by rfl) (by assumption) ?_ ?_
    rotate_left
    ·(intro w _;go_simp;try (with_reducible rfl))
    try simp only [qaa]
    refine wpAnyH_done (by kernel_rfl) ?_ _
    go_wp2
    exact ⟨⟨k+1,by omega,by go_num,HA2,kX.drew⟩,by simp only [intOf];omega⟩
   cases q3:inB (u.v - f) 0 48
   ·have Hr:Hid (qa0 s=false):=by show _=_;rw [HE.out,qmi _ Ht.out (by rw [Hok.out];simp [q1,q2,q3])]
    clear Hok Ht
    refine wp_region_held_drew (S:=(fun w'=>Keeps X w')) (by kernel_rfl) ?_ (fun hHeld => ?_)
    ·exact (Keeps.refl X).drew
    refine Plan.go [0,1,2,3,4,5,6,7,8,9,10,11,12,13,14,15,16,17] ?_
    iterate 18 (refine qac (by simp only [qab];rfl) (by kernel_rfl) (by exact fun _ _ _ h=>h) (by rfl) (by assumption) (fun w _=>by go_simp;try (with_reducible rfl)) ?_;try simp only [qaa])
    refine Plan.nil ?_
    refine qad 18 (by kernel_rfl) (by simp only [qab];rfl) (fun K hK => ?_)
    go_simp
    first
     | (go_at_call 64;refine (qaf _ _ _ _).mono ?_;rintro e w5 ⟨rfl,hw5⟩;have hw6:=hw5.symm;subst hw6;rw [q3])
    try go_wp2_with fail
    refine hK.out _ _ ?_ (fun hHeld => ?_)
    ·assumption
    clear hK K
    try simp only [qaa]
    refine Plan.go [19,20] ?_
    iterate 2 (refine qac (by simp only [qab];rfl) (by kernel_rfl) (by exact fun _ _ _ h=>h) (by rfl) (by assumption) (fun w _=>by go_simp;try (with_reducible rfl)) ?_;try simp only [qaa])
    refine Plan.nil ?_
    refine wpAnyH_done (by kernel_rfl) ?_ _
    go_wp2
    go_ret
    exact ⟨by rw [Hr.out];rfl,kW.trans kX.drew⟩
   ·have HA2:Hid ((s.tasks.take (k+1)).all (qbQ s)=true):=qfV _ Ht.out HA.out (by rw [Hok.out];simp [q3])
    clear Hok HE Ht
    refine wp_region_held_drew (S:=(fun w'=>Keeps X w')) (by kernel_rfl) ?_ (fun hHeld => ?_)
    ·exact (Keeps.refl X).drew
    refine Plan.go [0,1,2,3,4,5,6,7,8,9,10,11,12,13,14,15,16,17] ?_
    iterate 18 (refine qac (by simp only [qab];rfl) (by kernel_rfl) (by exact fun _ _ _ h=>h) (by rfl) (by assumption) (fun w _=>by go_simp;try (with_reducible rfl)) ?_;try simp only [qaa])
    refine Plan.nil ?_
    refine qad 18 (by kernel_rfl) (by simp only [qab];rfl) (fun K hK => ?_)
    go_simp
    first
     | (go_at_call 64;refine (qaf _ _ _ _).mono ?_;rintro e w5 ⟨rfl,hw5⟩;have hw6:=hw5.symm;subst hw6;rw [q3])
    try go_wp2_with fail
    refine hK.out _ _ ?_ (fun hHeld => ?_)
    ·assumption
    clear hK K
    try simp only [qaa]
    refine Plan.go [19,20] ?_
    iterate 2 (refine qac (by simp only [qab];rfl) (by kernel_rfl) (by exact fun _ _ _ h=>h) (by rfl) (by assumption) (fun w _=>by go_simp;try (with_reducible rfl)) ?_;try simp only [qaa])
    refine Plan.nil ?_
    refine wpAnyH_done (by kernel_rfl) ?_ _
    go_wp2
    exact ⟨⟨k+1,by omega,by go_num,HA2,kX.drew⟩,by simp only [intOf];omega⟩
  ·have hlt':decide ((k:Int) < (tn:Int))=false:=by simp;omega
   have Hr:Hid (qa0 s=true):=by
    have h1:=HA.out
    rw [List.take_of_length_le (by have:=Hn.out;omega)] at h1
    show _=_
    rw [HE.out,h1]
   go_wp2
   go_ret
   exact ⟨by rw [Hr.out];rfl,kW.trans hK⟩
set_option maxHeartbeats 4000000 in
theorem qmn {w:World} {v:Sv} {s:Sy} (h:SysOn w v s) :
  Calls Tryz.prog 27 #[.agg (syc s v)] w fun e w'=>e = .returned (.bool (qbs s)) /\ Keeps w w':=by
 obtain ⟨⟨ta,tn,tcap⟩,vl,vg,vf,vr⟩:=v
 have hm:tn <= 2000000:=by have h1:=h.size;have h2:s.tasks.length=tn:=h.lay.tl;unfold qaj at h1;omega
 have Hn:Hid (s.tasks.length=tn):=h.lay.tl
 have kW:=blkK w (.cells (syc s ⟨⟨ta,tn,tcap⟩,vl,vg,vf,vr⟩) 37)
 have hb:=blkR w (syc s ⟨⟨ta,tn,tcap⟩,vl,vg,vf,vr⟩) 37
 have hS:Hid (SysOn (w.alloc (.cells (syc s ⟨⟨ta,tn,tcap⟩,vl,vg,vf,vr⟩) 37)) ⟨⟨ta,tn,tcap⟩,vl,vg,vf,vr⟩ s):=h.keeps kW
 have hs1:Hid (Ts (w.alloc (.cells (syc s ⟨⟨ta,tn,tcap⟩,vl,vg,vf,vr⟩) 37)) ta s.tasks):=hS.out.lay.t
 have hTw:Hid (Two (w.alloc (.cells (syc s ⟨⟨ta,tn,tcap⟩,vl,vg,vf,vr⟩) 37)) ta tn tcap s.tasks vl.a vl.n vl.cap s.locks):=⟨hS.out.onT,hS.out.onL⟩
 clear h
 go_enter Tryz.func27,Tryz.ntmps27
 go_wp2_with fail
 generalize w.alloc (.cells (syc s ⟨⟨ta,tn,tcap⟩,vl,vg,vf,vr⟩) 37)=W at *
 refine (qdf hS.out).mono ?_
 rintro e w1 ⟨rfl,k1⟩
 cases c1:sysB s
 ·have Hr:Hid (qbs s=false):=by show _=_;unfold qbs;rw [c1];rfl
  go_wp2
  go_ret
  exact ⟨by rw [Hr.out];rfl,kW.trans k1⟩
 have HE:Hid (qbs s=true):=by show _=_;unfold qbs;rw [c1,qd1];rfl
 clear c1 hS
 go_wp2_with fail
 go_loopw [3] (fun i wr=>∃ k:Nat,k <= tn /\ i = .int .i64 k /\ Keeps W wr) (fun i _=>tn - (intOf i).toNat)
 case atStart=>exact ⟨0,Nat.zero_le _,rfl,k1⟩
 case round =>
  obtain ⟨k,hk,rfl,hK⟩:=hrel
  clear k1
  by_cases hlt:k < tn
  ·obtain ⟨t,ht⟩:=qai (xs:=s.tasks) (k:=k) (by rw [Hn.out];exact hlt)
   obtain ⟨b,off,rfl,r0,r1⟩:=hs1.out.at ht (by omega)
   have hlt':(k:Int) < (tn:Int):=by omega
   have Hok:Hid (qdt s t=true):=List.all_eq_true.1 (qd1 s) t (List.mem_of_getElem? ht)
   obtain ⟨A,HA⟩:∃ A,Hid (qaz s.tasks s.locks t.cpu=A):=⟨_,rfl⟩
   have hAr : -1 <= A /\ A < tn:=by rw [<- HA.out,<- Hn.out];exact qdQ s.tasks _ _
   clear ht
   go_wp2_with fail
   have kX:Keeps W (wr.alloc (.cells (tc t) 47)):=hK.alloc _
   have hX:=blkR wr (tc t) 47
   have hTX:Hid (Two (wr.alloc (.cells (tc t) 47)) (some ⟨b,off,none⟩) tn tcap s.tasks vl.a vl.n vl.cap s.locks):=hTw.out.keeps kX
   have hb2:∀ w',Keeps (wr.alloc (.cells (tc t) 47)) w'->∀ j,w'.cell? ⟨w.heap.size,j,none⟩=(syc s ⟨⟨some ⟨b,off,none⟩,tn,tcap⟩,vl,vg,vf,vr⟩)[j]?:=fun w' h=>hb w' (kX.trans h)
   change Calls _ _ _ (wr.alloc (.cells (tc t) 47)) _
   clear r0 r1 hb
   generalize wr.alloc (.cells (tc t) 47)=X at *
   refine (hTX.out.pick t.cpu HA.out (Keeps.refl _)).mono ?_
   rintro e w2 ⟨rfl,k2⟩
   cases q1:canB s.tasks s.locks t.no
   ·go_upto_region 8 with fail
    refine wp_region_held_drew (S:=(fun w'=>Keeps X w')) (by kernel_rfl) ?_ (fun hHeld => ?_)
    ·exact k2.drew
    refine Plan.go [0,1,2,3,4,5] ?_
    iterate 6 (refine qac (by simp only [qab];rfl) (by kernel_rfl) (by exact fun _ _ _ h=>h) (by rfl) (by assumption) (fun w _=>by go_simp;try (with_reducible rfl)) ?_;try simp only [qaa])
    refine Plan.nil ?_
    refine qad 6 (by kernel_rfl) (by simp only [qab];rfl) (fun K hK => ?_)
    go_simp
    first
     | (go_at_call 66;refine (hTX.out.can t.no q1 k2.drew).mono ?_;rintro e w3 ⟨rfl,k3⟩)
    try go_wp2_with fail
    refine hK.out _ _ ?_ (fun hHeld => ?_)
    ·exact Keeps.trans (by assumption) (by assumption)
    clear hK K
    try simp only [qaa]
    refine qan 7 (v := ?_) (by simp only [qab];rfl) (by kernel_rfl) (by exact fun _ _ _ h=>h) (by rfl) (by assumption) ?_ ?_
    rotate_left
    ·(intro w _;go_simp;try (with_reducible rfl))
    try simp only [qaa]
    refine Plan.go [8,9,10,11,12,13,14,15,16,17,18] ?_
    iterate 11 (refine qaq (by simp only [qab];rfl) (by kernel_rfl) (by exact fun _ _ _ h=>h) (by rfl) (by assumption) ?_;try simp only [qaa])
    refine Plan.nil ?_
    refine qan 19 (v := ?_) (by simp only [qab];rfl) (by kernel_rfl) (by exact fun _ _ _ h=>h) (by rfl) (by assumption) ?_ ?_
    rotate_left
    ·(intro w _;go_simp;try (with_reducible rfl))
    try simp only [qaa]
    refine wpAnyH_done (by kernel_rfl) ?_ _
    have K3:Keeps X w3:=by assumption
    go_wp2
    exact ⟨⟨k+1,by omega,by go_num,kX.trans K3⟩,by simp only [intOf];omega⟩
   have Hok2:Hid (decide (A < 0)=false /\ befB t (s.tasks.getD A.toNat Tsk.zero)=false):=by
    have h1:=Hok.out
    unfold qdt at h1
    rw [q1,HA.out] at h1
    show _ /\ _
    simpa using h1
   obtain ⟨j,hj⟩:∃ j:Nat,A=(j:Int):=⟨A.toNat,by have:=Hok2.out.1;simp at this;omega⟩
   subst hj
   have hjn:(j:Int) < (tn:Int):=by omega
   obtain ⟨u,hu⟩:=qai (xs:=s.tasks) (k:=j) (by rw [Hn.out];omega)
   have q2:befB t u=false:=by have:=Hok2.out.2;rwa [Int.toNat_natCast,qbM hu] at this
   obtain ⟨b',off',ha',r0',r1'⟩:=hs1.out.at hu (by omega)
   obtain ⟨rfl,rfl⟩:b'=b /\ off'=off:=by simpa using ha'.symm
   have r0:∀ w',Keeps X w'->w'.cell? ⟨b',off'+j*14,none⟩=some (.int .i64 u.no):=fun w' h=>r0' w' (kX.trans h)
   have r1:∀ w',Keeps X w'->∀ i,i < 14->w'.cell? ⟨b',off'+j*14+i,none⟩=(tc u)[i]?:=fun w' h=>r1' w' (kX.trans h)
   clear Hok Hok2 hu r0' r1' ha' HA
   go_upto_region 8 with fail
   refine wp_region_held_drew (S:=(fun w'=>Keeps X w')) (by kernel_rfl) ?_ (fun hHeld => ?_)
   ·exact k2.drew
   refine Plan.go [0,1,2,3,4,5] ?_
   iterate 6 (refine qac (by simp only [qab];rfl) (by kernel_rfl) (by exact fun _ _ _ h=>h) (by rfl) (by assumption) (fun w _=>by go_simp;try (with_reducible rfl)) ?_;try simp only [qaa])
   refine Plan.nil ?_
   refine qad 6 (by kernel_rfl) (by simp only [qab];rfl) (fun K hK => ?_)
   go_simp
   first
    | (go_at_call 66;refine (hTX.out.can t.no q1 k2.drew).mono ?_;rintro e w3 ⟨rfl,k3⟩)
    | (go_at_call 67;refine (qcK t u _).mono ?_;rintro e w4 ⟨rfl,k4⟩;rw [q2])
   try go_wp2_with fail
   refine hK.out _ _ ?_ (fun hHeld => ?_)
   ·exact Keeps.trans (by assumption) (by assumption)
   clear hK K
   try simp only [qaa]
   refine Plan.go [7,8,9,10,11,12,13,14,15,16] ?_
   iterate 10 (refine qac (by simp only [qab];rfl) (by kernel_rfl) (by exact fun _ _ _ h=>h) (by rfl) (by assumption) (fun w _=>by go_simp;try (with_reducible rfl)) ?_;try simp only [qaa])
   refine Plan.nil ?_
   refine qad 17 (by kernel_rfl) (by simp only [qab];rfl) (fun K hK => ?_)
   go_simp
   first
    | (go_at_call 66;refine (hTX.out.can t.no q1 k2.drew).mono ?_;rintro e w3 ⟨rfl,k3⟩)
    | (go_at_call 67;refine (qcK t u _).mono ?_;rintro e w4 ⟨rfl,k4⟩;rw [q2])
   try go_wp2_with fail
   refine hK.out _ _ ?_ (fun hHeld => ?_)
   ·exact Keeps.trans (by assumption) (by assumption)
   clear hK K
   try simp only [qaa]
   refine Plan.go [18,19] ?_
   iterate 2 (refine qac (by simp only [qab];rfl) (by kernel_rfl) (by exact fun _ _ _ h=>h) (by rfl) (by assumption) (fun w _=>by go_simp;try (with_reducible rfl)) ?_;try simp only [qaa])
   refine Plan.nil ?_
   refine wpAnyH_done (by kernel_rfl) ?_ _
   have K4:Keeps X w4:=by assumption
   go_wp2
   exact ⟨⟨k+1,by omega,by go_num,kX.trans K4⟩,by simp only [intOf];omega⟩
  ·have hlt':decide ((k:Int) < (tn:Int))=false:=by simp;omega
   go_wp2
   go_ret
   exact ⟨by rw [HE.out];rfl,kW.trans hK⟩
def qb2 (s:Sy) (k:Nat):List Int:=(List.range k).map fun (j:Nat)=>qaA s.tasks s.locks (j:Int)
theorem qhN (s:Sy) (k:Nat):qb2 s (k+1)=qb2 s k++[qaA s.tasks s.locks k]:=by
 unfold qb2
 rw [List.range_succ,List.map_append];rfl
theorem qhO (s:Sy) (k:Nat):(qb2 s k).length=k:=by simp [qb2]
theorem qhP {s:Sy} (R:SysR s) {k:Nat} (hk:(k:Int) < s.cpus) (h:0 < qaA s.tasks s.locks k):hasB (qb2 s k) (qaA s.tasks s.locks k)=false:=by
 have h1:=List.all_eq_true.1 (qez R) k (List.mem_range.2 (by omega))
 unfold qe3 at h1
 rw [decide_eq_true h,Bool.true_and,Bool.not_eq_true',List.any_eq_false] at h1
 rw [qeF]
 intro hm
 unfold qb2 at hm
 rw [List.mem_map] at hm
 obtain ⟨j,hj,e⟩:=hm
 exact h1 j hj (by rw [beq_iff_eq];exact e)
set_option maxHeartbeats 4000000 in
theorem qmo {w:World} {v:Sv} {s:Sy} (h:SysOn w v s) :
  Calls Tryz.prog 28 #[.agg (syc s v)] w fun e w'=>e = .returned (.bool (qbt s)) /\ Keeps w w':=by
 have kW:=blkK w (.cells (syc s v) 37)
 have hb:=blkR w (syc s v) 37
 have hS:Hid (SysOn (w.alloc (.cells (syc s v) 37)) v s):=h.keeps kW
 have hTw:Hid (Two (w.alloc (.cells (syc s v) 37)) v.t.a v.t.n v.t.cap s.tasks v.l.a v.l.n v.l.cap s.locks):=⟨hS.out.onT,hS.out.onL⟩
 clear h
 go_enter Tryz.func28,Tryz.ntmps28
 go_wp2_with fail
 generalize w.alloc (.cells (syc s v) 37)=W at *
 refine (qdf hS.out).mono ?_
 rintro e w1 ⟨rfl,k1⟩
 cases c1:sysB s
 ·have Hr:Hid (qbt s=false):=by show _=_;unfold qbt;rw [c1];rfl
  go_wp2
  go_ret
  exact ⟨by rw [Hr.out];rfl,kW.trans k1⟩
 have HR:Hid (SysR s):=qbh.1 c1
 have HE:Hid (qbt s=true):=by show _=_;unfold qbt;rw [c1,qez HR.out];rfl
 have hc4:s.cpus <= 4:=HR.out.cpus.2
 clear c1 hS
 go_wp2_with fail
 have O0:Hid (OwnN (w1.alloc (.cells #[] 3)) w1.heap.size (.slice (some ⟨w1.heap.size,0,none⟩) 0 0) []):=Own.new 3 1 ic _ (Nat.le_refl _)
 go_loopw [3,4] (fun o i wr=>∃ k:Nat,(k:Int) <= s.cpus /\ i = .int .i64 k /\ Hid (OwnN wr w1.heap.size o (qb2 s k)) /\ Keeps w1 wr) (fun _ i _=>s.cpus.toNat - (intOf i).toNat)
 case atStart=>exact ⟨0,by have:=HR.out.cpus;omega,rfl,O0,(Keeps.refl _).alloc _⟩
 case round =>
  obtain ⟨k,hk,rfl,O,hK1⟩:=hrel
  clear O0
  have hK:Keeps W wr:=k1.trans hK1
  by_cases hlt:(k:Int) < s.cpus
  ·obtain ⟨xs,HX⟩:∃ xs,Hid (qb2 s k=xs):=⟨_,rfl⟩
   have hxl:xs.length=k:=by rw [<- HX.out];exact qhO s k
   obtain ⟨x,Hx⟩:∃ x,Hid (qaA s.tasks s.locks (k:Int)=x):=⟨_,rfl⟩
   obtain ⟨no,Hno⟩:∃ x,Hid (qa7 s.tasks s.locks (k:Int)=x):=⟨_,rfl⟩
   have Hstep:Hid (qb2 s (k+1)=xs++[x]):=by show _=_;rw [qhN,HX.out,Hx.out]
   have Hnew:Hid (0 < x->hasB xs x=false):=by rw [<- HX.out,<- Hx.out];exact qhP HR.out hlt
   rw [HX.out] at O
   have PK:Hid (Calls Tryz.prog 68 #[.slice v.t.a v.t.n v.t.cap,.slice v.l.a v.l.n v.l.cap,.int .i64 (k:Int)] wr fun e w'=>e = .returned (.tuple #[.int .i64 no,.int .i64 x]) /\ Keeps wr w'):=by
    have:=qnh (hTw.out.keeps hK) (k:Int)
    rw [Hno.out,Hx.out] at this
    exact this
   have HasC:Hid (∀ (o:Value) w',OwnN w' w1.heap.size o xs->Calls Tryz.prog 69 #[o,.int .i64 x] w' fun e w''=>e = .returned (.bool (hasB xs x)) /\ Keeps w' w''):=fun o w' ho=>by
    obtain ⟨a,cap,rfl,hn,h1,h2⟩:=ho.ns
    exact qdN a cap xs x w' (by omega) hn
   clear HX Hx Hno
   go_wp2_with fail
   refine PK.out.mono ?_
   rintro e w2 ⟨rfl,k2⟩
   have O2:Hid (OwnN w2 w1.heap.size _ xs):=O.out.keeps k2
   have K2:Keeps w1 w2:=hK1.trans k2
   clear PK O k2 hK1 hK
   cases q1:decide (0 < x)
   ·go_wp2_with (at_builtin;(refine qbi rfl _ _ 25 rfl w1 3 (.int .i64 0) 1 8 ic Tryz.underlying25 (by kernel_rfl) rfl (by decide) qaZ qci _ xs rfl w2 O2.out K2 ((Keeps.refl _).alloc _) x _ 1 (Blk.new _ _ _) rfl ?c1 ?c2 ?_))
    case c1=>unfold maxLen;omega
    case c2=>omega
    intro v' w5 own5 k5 _
    have HO:Hid (OwnN w5 w1.heap.size v' (qb2 s (k+1))):=by rw [Hstep.out];exact own5
    clear own5 O2 Hstep
    go_wp2
    exact ⟨⟨k+1,by omega,by go_num,HO,k5⟩,by simp only [intOf];omega⟩
   ·have q2:hasB xs x=false:=Hnew.out (of_decide_eq_true q1)
    rw [q2] at HasC
    go_wp2_with fail
    refine (HasC.out _ w2 O2.out).mono ?_
    rintro e w3 ⟨rfl,k3⟩
    have O3:Hid (OwnN w3 w1.heap.size _ xs):=O2.out.keeps k3
    have K3:Keeps w1 w3:=K2.trans k3
    clear O2 K2 k3
    go_wp2_with (at_builtin;(refine qbi rfl _ _ 25 rfl w1 3 (.int .i64 0) 1 8 ic Tryz.underlying25 (by kernel_rfl) rfl (by decide) qaZ qci _ xs rfl w3 O3.out K3 ((Keeps.refl _).alloc _) x _ 1 (Blk.new _ _ _) rfl ?c1 ?c2 ?_))
    case c1=>unfold maxLen;omega
    case c2=>omega
    intro v' w5 own5 k5 _
    have HO:Hid (OwnN w5 w1.heap.size v' (qb2 s (k+1))):=by rw [Hstep.out];exact own5
    clear own5 O3 Hstep
    go_wp2
    exact ⟨⟨k+1,by omega,by go_num,HO,k5⟩,by simp only [intOf];omega⟩
  ·have hlt':decide ((k:Int) < s.cpus)=false:=by simp;omega
   go_wp2
   go_ret
   exact ⟨by rw [HE.out];rfl,kW.trans hK⟩
def qfW:Prop:=∀ (w:World) (v:Sv) (s:Sy),GlobE w->SysOn w v s->Calls Tryz.prog 19 #[.agg (syc s v)] w fun e w'=>e = .returned (.bool (qaJ s)) /\ Keeps w w'
def qfX:Prop:=∀ (w:World) (v:Sv) (s:Sy),GlobE w->SysOn w v s->Calls Tryz.prog 20 #[.agg (syc s v)] w fun e w'=>e = .returned (.bool (qbD s)) /\ Keeps w w'
def qfY:Prop:=∀ (w:World) (v:Sv) (s:Sy),GlobE w->SysOn w v s->Calls Tryz.prog 21 #[.agg (syc s v)] w fun e w'=>e = .returned (.bool (qa0 s)) /\ Keeps w w'
def qfZ:Prop:=∀ (w:World) (v:Sv) (s:Sy),GlobE w->SysOn w v s->Calls Tryz.prog 22 #[.agg (syc s v)] w fun e w'=>e = .returned (.bool (qbs s)) /\ Keeps w w'
def qf0:Prop:=∀ (w:World) (v:Sv) (s:Sy),GlobE w->SysOn w v s->Calls Tryz.prog 23 #[.agg (syc s v)] w fun e w'=>e = .returned (.bool (qbt s)) /\ Keeps w w'
def qf1:Prop:=∀ (w:World) (v:Sv) (s:Sy),GlobE w->SysOn w v s->Calls Tryz.prog 30 #[.agg (syc s v)] w fun e w'=>e = .returned (.bool (qb1 s)) /\ Keeps w w'
end Go.Proofs.YthpdlbcdbncnhaaGreatDoor
