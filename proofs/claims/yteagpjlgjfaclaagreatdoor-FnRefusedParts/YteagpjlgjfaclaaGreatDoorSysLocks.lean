/-
  The system: its locks are of tasks, each of one processor.
  The system: it is right.
-/
import Derived.Test.YteagpjlgjfaclaaGreatDoorSysShares
namespace Go.Proofs.YteagpjlgjfaclaaGreatDoor
set_option maxRecDepth 100000
open Go.RowKit
attribute [local go_sem] Keeps.refl Keeps.alloc Keeps.drew Keeps.drewN
set_option maxHeartbeats 8000000 in
theorem qmc {w:World} {v:Sv} {s:Sy} (h:SysOn w v s) :
  Calls Tryz.prog 29 #[.agg (syc s v)] w fun e w'=>e = .returned (.bool (qbr s)) /\ Keeps w w':=by
 have hm:v.t.n <= 2000000 /\ v.l.n <= 2000000:=by have:=h.size;have:=h.lay.ll;have:=h.lay.tl;have:=qc5 s.locks;unfold qai at *;omega
 obtain ⟨hm1,hm2⟩:=hm
 have kW:=blkK w (.cells (syc s v) 30)
 have hb:=blkR w (syc s v) 30
 have hT:Hid (OnT (w.alloc (.cells (syc s v) 30)) v.t.a v.t.n v.t.cap s.tasks):=h.onT.keeps kW
 have hL:Hid (On (w.alloc (.cells (syc s v) 30)) v.l.a v.l.n v.l.cap s.locks):=h.onL.keeps kW
 have HE:Hid (qbr s=(s.locks.length==5&&(qax s.locks&&s.locks.all (qbM s.tasks)))):=rfl
 clear h
 cases c1:((v.l.n:Int) != 5)
 rotate_left
 ·have Hr:Hid (qbr s=false):=by
   have:(s.locks.length==5)=false:=by
    rw [hL.out.len]
    simp only [bne_iff_ne,ne_eq] at c1
    simp only [beq_eq_false_iff_ne,ne_eq]
    omega
   show _=_
   rw [HE.out,this];rfl
  go_enter Tryz.func29,Tryz.ntmps29
  go_wp2
  go_ret
  exact ⟨by rw [Hr.out];rfl,kW⟩
 have c5:v.l.n=5:=by simp at c1;omega
 have H5:Hid (v.l.n=5):=c5
 clear c5
 go_enter Tryz.func29,Tryz.ntmps29
 go_wp2_with fail
 generalize w.alloc (.cells (syc s v) 30)=W at *
 refine (hL.out.sLocksOk rfl (Keeps.refl _)).mono ?_
 rintro e w1 ⟨rfl,k1⟩
 cases c2:qax s.locks
 ·have Hr:Hid (qbr s=false):=by show _=_;rw [HE.out,c2];simp
  go_wp2
  go_ret
  exact ⟨by rw [Hr.out];rfl,kW.trans k1⟩
 have HE2:Hid (qbr s=s.locks.all (qbM s.tasks)):=by
  show _=_
  have:(s.locks.length==5)=true:=by rw [hL.out.len,H5.out];rfl
  rw [HE.out,c2,this];rfl
 clear HE
 go_wp2_with fail
 go_loopw [3] (fun i wr=>∃ k:Nat,k <= v.l.n /\ i = .int .i64 k /\ Hid ((s.locks.take k).all (qbM s.tasks)=true) /\ Keeps W wr) (fun i _=>v.l.n - (intOf i).toNat)
 case atStart=>exact ⟨0,Nat.zero_le _,rfl,by show _=_;simp,k1⟩
 case round =>
  obtain ⟨k,hk,rfl,HA,hK⟩:=hrel
  clear k1
  by_cases hlt:k < v.l.n
  rotate_left
  ·have hlt':decide ((k:Int) < (v.l.n:Int))=false:=by simp;omega
   have Hr:Hid (qbr s=true):=by
    have h1:=HA.out
    rw [List.take_of_length_le (by have:=hL.out.len;omega)] at h1
    show _=_
    rw [HE2.out,h1]
   go_wp2
   go_ret
   exact ⟨by rw [Hr.out];rfl,kW.trans hK⟩
  obtain ⟨l,hl⟩:=qal (xs:=s.locks) (k:=k) (by rw [hL.out.len];exact hlt)
  obtain ⟨-,b,off,a',cap',ha,r0,r1,hle,hns⟩:=hL.out.at hl
  have hlt':(k:Int) < (v.l.n:Int):=by omega
  have Hstep:Hid ((s.locks.take (k+1)).all (qbM s.tasks)=qbM s.tasks l):=by
   show _=_
   rw [qb6 hl,List.all_append,HA.out]
   simp
  have Hno:Hid (qbM s.tasks l=false->qbr s=false):=fun e=>by
   rw [HE2.out]
   exact List.all_eq_false.2 ⟨l,List.mem_of_getElem? hl,by rw [e];simp⟩
  have N1:Hid (Ns W a' l.waits):=hns
  have Hle:Hid (l.waits.length <= maxLen):=hle
  clear hl hns hle HA
  obtain ⟨m,Hm⟩:∃ m:Nat,Hid (l.waits.length=m):=⟨_,rfl⟩
  rw [Hm.out] at r1
  have hml:m <= 9223372036854775807:=by have:=Hle.out;rw [Hm.out] at this;exact this
  cases c3:(l.owner==0)
  rotate_left
  ·have HG:Hid ((s.locks.take (k+1)).all (qbM s.tasks)=true):=by show _=_;rw [Hstep.out];unfold qbM;rw [c3];rfl
   go_wp2
   exact ⟨⟨k+1,by omega,by go_num,HG,hK.alloc _⟩,by simp only [intOf];omega⟩
  have K0:Keeps W (wr.alloc (.cells #[.int .i64 l.owner,.slice a' m cap'] 37)):=hK.alloc _
  have hX:∀ w',Keeps (wr.alloc (.cells #[.int .i64 l.owner,.slice a' m cap'] 37)) w'->∀ j,w'.cell? ⟨wr.heap.size,j,none⟩=(#[.int .i64 l.owner,.slice a' m cap']:Array Value)[j]?:=fun w' h=>((Blk.new wr #[.int .i64 l.owner,.slice a' m cap'] 37).keeps h).cells
  obtain ⟨p,Hp⟩:∃ p,Hid (qau s.tasks l.owner=p):=⟨_,rfl⟩
  go_wp2_with fail
  generalize wr.alloc (.cells #[.int .i64 l.owner,.slice a' m cap'] 37)=X at *
  refine (hT.out.sTaskAt l.owner Hp.out K0).mono ?_
  rintro e w2 ⟨rfl,k2⟩
  cases c4:decide (p < 0)
  rotate_left
  ·have Hr:Hid (qbr s=false):=Hno.out (by unfold qbM qak;rw [c3,Hp.out,c4];rfl)
   go_wp2
   go_ret
   exact ⟨by rw [Hr.out];rfl,kW.trans (K0.trans k2)⟩
  have hth:qak s.tasks l.owner=true:=by unfold qak;rw [Hp.out,c4];rfl
  obtain ⟨ka,ta,ea,hta,-⟩:=qda.1 hth
  have Hta:Hid (tAt s.tasks l.owner=ta):=qdb ea hta
  obtain rfl:p=(ka:Int):=by rw [<- Hp.out];exact ea
  have hkn:ka < v.t.n:=by have:=qaw hta;rw [hT.out.len] at this;exact this
  have hki:(ka:Int) < (v.t.n:Int):=by omega
  obtain ⟨bt,ot,hat,rt⟩:=hT.out.all (by omega)
  have ra:∀ w',Keeps W w'->w'.cell? ⟨bt,ot+ka*14+2,none⟩=some (.int .i64 ta.cpu):=fun w' h=>(rt ka ta hta).2 w' h 2 (by omega)
  have RT:Hid (∀ (i:Nat) (t:Tsk),s.tasks[i]?=some t->∀ w',Keeps W w'->w'.cell? ⟨bt,ot+i*14+2,none⟩=some (.int .i64 t.cpu)):=fun i t ht w' h=>(rt i t ht).2 w' h 2 (by omega)
  have HL:Hid (qbM s.tasks l=l.waits.all (qce s.tasks ta.cpu)):=by show _=_;unfold qbM;rw [c3,hth,Hta.out];rfl
  clear hth ea hta rt Hp hlt' r0 r1 ha
  go_wp2_with fail
  generalize wr=U at *
  go_loopw [6] (fun i wx=>∃ j:Nat,j <= m /\ i = .int .i64 j /\ Hid ((l.waits.take j).all (qce s.tasks ta.cpu)=true) /\ Keeps X wx) (fun i _=>m - (intOf i).toNat)
  case atStart=>exact ⟨0,Nat.zero_le _,rfl,by show _=_;simp,k2⟩
  case round =>
   obtain ⟨j,hj,rfl,HB,hK2⟩:=hrel
   clear k2
   by_cases hjt:j < m
   rotate_left
   ·have hjt':decide ((j:Int) < (m:Int))=false:=by simp;omega
    have HG:Hid ((s.locks.take (k+1)).all (qbM s.tasks)=true):=by
     have h1:=HB.out
     rw [List.take_of_length_le (by have:=Hm.out;omega)] at h1
     show _=_
     rw [Hstep.out,HL.out,h1]
    go_wp2
    exact ⟨⟨k+1,by omega,by go_num,HG,K0.trans hK2⟩,by simp only [intOf];omega⟩
   obtain ⟨x,hx⟩:=qal (xs:=l.waits) (k:=j) (by rw [Hm.out];exact hjt)
   obtain ⟨bw,ow,haw,rw0⟩:=N1.out.at hx
   subst haw
   have hjt':(j:Int) < (m:Int):=by omega
   have Hstep2:Hid ((l.waits.take (j+1)).all (qce s.tasks ta.cpu)=qce s.tasks ta.cpu x):=by
    show _=_
    rw [qb6 hx,List.all_append,HB.out]
    simp
   have Hno2:Hid (qce s.tasks ta.cpu x=false->qbr s=false):=fun e=>Hno.out (by rw [HL.out];exact List.all_eq_false.2 ⟨x,List.mem_of_getElem? hx,by rw [e];simp⟩)
   have rx:∀ w',Keeps X w'->w'.cell? ⟨bw,ow+j,none⟩=some (.int .i64 x):=fun w' h=>rw0 w' (K0.trans h)
   have hbX:∀ w',Keeps X w'->∀ j,w'.cell? ⟨w.heap.size,j,none⟩=(syc s v)[j]?:=fun w' h=>hb w' (K0.trans h)
   have raX:∀ w',Keeps X w'->w'.cell? ⟨bt,ot+ka*14+2,none⟩=some (.int .i64 ta.cpu):=fun w' h=>ra w' (K0.trans h)
   obtain ⟨p,Hp⟩:∃ p,Hid (qau s.tasks x=p):=⟨_,rfl⟩
   have TA:Hid (∀ w',Keeps X w'->Calls Tryz.prog 71 #[.slice v.t.a v.t.n v.t.cap,.int .i64 x] w' fun e w''=>e = .returned (.int .i64 p) /\ Keeps w' w''):=fun w' h=>hT.out.sTaskAt x Hp.out (K0.trans h)
   rw [hat] at TA
   clear hx HB rw0
   go_wp2_with fail
   refine wp_region_held_drew (S:=(fun w'=>Keeps X w')) (by kernel_rfl) ?_ (fun hHeld => ?_)
   ·exact hK2.drew
   refine Plan.go [0,1,2,3,4,5,6] ?_
   iterate 7 (refine qac (by simp only [qab];rfl) (by kernel_rfl) (by exact fun _ _ _ h=>h) (by rfl) (by assumption) (fun w _=>by go_simp;try (with_reducible rfl)) ?_;try simp only [qaa])
   refine Plan.nil ?_
   refine qad 7 (by kernel_rfl) (by simp only [qab];rfl) (fun K hK => ?_)
   go_simp
   first
    | (go_at_call 71;refine (TA.out _ hK2.drew).mono ?_;rintro e w5 ⟨rfl,k5⟩)
   try go_wp2_with fail
   refine hK.out _ _ ?_ (fun hHeld => ?_)
   ·exact Keeps.trans (by assumption) (by assumption)
   clear hK K
   try simp only [qaa]
   refine qar 8 (v := ?_) (by simp only [qab];rfl) (by kernel_rfl) (by exact fun _ _ _ h=>h) (by rfl) (by assumption) ?_ ?_
   rotate_left
   ·(intro w _;go_simp;try (with_reducible rfl))
   try simp only [qaa]
   refine wpAnyH_done (by kernel_rfl) ?_ _
   have K5:Keeps X w5:=by assumption
   cases c6:decide (p < 0)
   rotate_left
   ·have Hr:Hid (qbr s=false):=Hno2.out (by unfold qce qak;rw [Hp.out,c6];rfl)
    go_wp2_with fail
    refine wp_region_held_drew (S:=(fun w'=>Keeps X w')) (by kernel_rfl) ?_ (fun hHeld => ?_)
    ·exact K5.drew
    refine Plan.go [0,1,2] ?_
    iterate 3 (refine qac (by simp only [qab];rfl) (by kernel_rfl) (by exact fun _ _ _ h=>h) (by rfl) (by assumption) (fun w _=>by go_simp;try (with_reducible rfl)) ?_;try simp only [qaa])
    refine Plan.nil ?_
    refine Plan.go [3,4,5,6,7,8,9,10,11,12,13,14,15] ?_
    iterate 13 (refine qaA (by simp only [qab];rfl) (by kernel_rfl) (by exact fun _ _ _ h=>h) (by rfl) (by assumption) ?_;try simp only [qaa])
    refine Plan.nil ?_
    refine qar 16 (v := ?_) (by simp only [qab];rfl) (by kernel_rfl) (by exact fun _ _ _ h=>h) (by rfl) (by assumption) ?_ ?_
    rotate_left
    ·(intro w _;go_simp;try (with_reducible rfl))
    try simp only [qaa]
    refine wpAnyH_done (by kernel_rfl) ?_ _
    go_wp2
    go_ret
    exact ⟨by rw [Hr.out];rfl,kW.trans (K0.trans K5.drew)⟩
   have hthx:qak s.tasks x=true:=by unfold qak;rw [Hp.out,c6];rfl
   obtain ⟨kx,tx,ex,htx,-⟩:=qda.1 hthx
   have Htx:Hid (tAt s.tasks x=tx):=qdb ex htx
   obtain rfl:p=(kx:Int):=by rw [<- Hp.out];exact ex
   have hkx:kx < v.t.n:=by have:=qaw htx;rw [hT.out.len] at this;exact this
   have hkxi:(kx:Int) < (v.t.n:Int):=by omega
   have rx2:∀ w',Keeps X w'->w'.cell? ⟨bt,ot+kx*14+2,none⟩=some (.int .i64 tx.cpu):=fun w' h=>RT.out kx tx htx w' (K0.trans h)
   have HO:Hid (qce s.tasks ta.cpu x=(tx.cpu==ta.cpu)):=by show _=_;unfold qce;rw [hthx,Htx.out];rfl
   clear hthx ex htx Hp
   cases c7:(tx.cpu != ta.cpu)
   rotate_left
   ·have Hr:Hid (qbr s=false):=Hno2.out (by rw [HO.out];simp only [bne_iff_ne,ne_eq] at c7;simp [c7])
    go_wp2_with fail
    refine wp_region_held_drew (S:=(fun w'=>Keeps X w')) (by kernel_rfl) ?_ (fun hHeld => ?_)
    ·exact K5.drew
    refine Plan.go [0,1,2,3,4,5,6,7,8,9,10,11,12,13,14,15,16] ?_
    iterate 17 (refine qac (by simp only [qab];rfl) (by kernel_rfl) (by exact fun _ _ _ h=>h) (by rfl) (by assumption) (fun w _=>by go_simp;try (with_reducible rfl)) ?_;try simp only [qaa])
    refine Plan.nil ?_
    refine wpAnyH_done (by kernel_rfl) ?_ _
    go_wp2
    go_ret
    exact ⟨by rw [Hr.out];rfl,kW.trans (K0.trans K5.drew)⟩
   ·have HB2:Hid ((l.waits.take (j+1)).all (qce s.tasks ta.cpu)=true):=by show _=_;rw [Hstep2.out,HO.out];simp only [bne_eq_false_iff_eq] at c7;simp [c7]
    go_wp2_with fail
    refine wp_region_held_drew (S:=(fun w'=>Keeps X w')) (by kernel_rfl) ?_ (fun hHeld => ?_)
    ·exact K5.drew
    refine Plan.go [0,1,2,3,4,5,6,7,8,9,10,11,12,13,14,15,16] ?_
    iterate 17 (refine qac (by simp only [qab];rfl) (by kernel_rfl) (by exact fun _ _ _ h=>h) (by rfl) (by assumption) (fun w _=>by go_simp;try (with_reducible rfl)) ?_;try simp only [qaa])
    refine Plan.nil ?_
    refine wpAnyH_done (by kernel_rfl) ?_ _
    go_wp2
    exact ⟨⟨j+1,by omega,by go_num,HB2,K5.drew⟩,by simp only [intOf];omega⟩
end Go.Proofs.YteagpjlgjfaclaaGreatDoor
namespace Go.Proofs.YteagpjlgjfaclaaGreatDoor
set_option maxRecDepth 100000
open Go.RowKit
attribute [local go_sem] Keeps.refl Keeps.alloc Keeps.drew Keeps.drewN
theorem qfD {w:World} {base:Nat} {u:Value} {xs:List (Int × Int)} (h:OwnP w base u xs):Calls Tryz.prog 31 #[u] w fun e w'=>e = .returned (.bool (qaL xs)) /\ Keeps w w':=by
 obtain ⟨a,cap,rfl,l,h1,h2⟩:=h.slice qaq
 exact ql6 a cap xs w (by omega) (qhF l)
set_option maxHeartbeats 8000000 in
theorem qeM {w:World} {v:Sv} {s:Sy} (h:SysOn w v s) :
  Calls Tryz.prog 9 #[.agg (syc s v)] w fun e w'=>e = .returned (.bool (sysB s)) /\ Keeps w w':=by
 have hm:v.t.n <= 2000000 /\ v.f.n <= 2000000 /\ v.r.n <= 2000000:=by have:=h.size;have:=h.lay.tl;have:=h.lay.fl;have:=h.lay.rl;unfold qai at *;omega
 obtain ⟨hm1,hm2,hm3⟩:=hm
 have kW:=blkK w (.cells (syc s v) 30)
 have hb:=blkR w (syc s v) 30
 have hS:Hid (SysOn (w.alloc (.cells (syc s v) 30)) v s):=h.keeps kW
 clear h
 go_enter Tryz.func9,Tryz.ntmps9
 go_wp2_with fail
 generalize w.alloc (.cells (syc s v) 30)=W at *
 refine (qag _ _ _ _).mono ?_
 rintro e w' ⟨rfl,hw'⟩
 have hw2:=hw'.symm
 subst hw2
 cases c1:inB s.now 0 100000
 ·have Hr:Hid (sysB s=false):=by show _=_;unfold sysB qcf;rw [c1];rfl
  go_wp2
  go_ret
  exact ⟨by rw [Hr.out];rfl,kW⟩
 go_wp2_with fail
 refine (qag _ _ _ _).mono ?_
 rintro e w' ⟨rfl,hw'⟩
 have hw2:=hw'.symm
 subst hw2
 cases c2:inB s.cpus 1 4
 ·have Hr:Hid (sysB s=false):=by show _=_;unfold sysB qcf;rw [c1,c2];rfl
  go_wp2
  go_ret
  exact ⟨by rw [Hr.out];rfl,kW⟩
 obtain ⟨p1,p2⟩:=qas.1 c2
 go_wp2_with fail
 refine (hS.out.onT.sTasksOk rfl (Keeps.refl _)).mono ?_
 rintro e w3 ⟨rfl,k3⟩
 cases c3:qav s.tasks
 ·have Hr:Hid (sysB s=false):=by show _=_;unfold sysB qcf;rw [c1,c2,c3];rfl
  go_wp2
  go_ret
  exact ⟨by rw [Hr.out];rfl,kW.trans k3⟩
 go_wp2_with fail
 refine (qmc (hS.out.keeps k3)).mono ?_
 rintro e w4 ⟨rfl,k4⟩
 have K4:=k3.trans k4
 clear k3 k4
 cases c4:qbr s
 ·have Hr:Hid (sysB s=false):=by show _=_;unfold sysB qcf;rw [c1,c2,c3,c4];rfl
  go_wp2
  go_ret
  exact ⟨by rw [Hr.out];rfl,kW.trans K4⟩
 go_wp2_with fail
 refine (qmj (hS.out.keeps K4) ⟨p1,p2⟩).mono ?_
 rintro e w5 ⟨rfl,k5⟩
 have K5:=K4.trans k5
 clear K4 k5
 cases c5:qbX s
 ·have Hr:Hid (sysB s=false):=by show _=_;unfold sysB qcf;rw [c1,c2,c3,c4,c5];rfl
  go_wp2
  go_ret
  exact ⟨by rw [Hr.out];rfl,kW.trans K5⟩
 have Hfl:Hid (s.floors.length=v.f.n):=hS.out.lay.fl
 have Hrl:Hid (s.trace.length=v.r.n):=hS.out.lay.rl
 cases d6:((v.f.n:Int) != s.cpus)
 rotate_left
 ·have c6:((s.floors.length:Int)==s.cpus)=false:=by rw [Hfl.out];simpa [bne] using d6
  have Hr:Hid (sysB s=false):=by show _=_;unfold sysB qcf;rw [c1,c2,c3,c4,c5,c6];rfl
  go_wp2
  go_ret
  exact ⟨by rw [Hr.out];rfl,kW.trans K5⟩
 have H6:Hid (((s.floors.length:Int)==s.cpus)=true):=by show _=_;rw [Hfl.out];simpa [bne] using d6
 go_wp2_with fail
 refine (qag _ _ _ _).mono ?_
 rintro e w' ⟨rfl,hw'⟩
 have hw2:=hw'.symm
 subst hw2
 cases c7:inB s.seq 0 1000000
 ·have Hr:Hid (sysB s=false):=by show _=_;unfold sysB qcf;rw [c1,c2,c3,c4,c5,H6.out,c7];rfl
  go_wp2
  go_ret
  exact ⟨by rw [Hr.out];rfl,kW.trans K5⟩
 go_wp2_with fail
 refine (qag _ _ _ _).mono ?_
 rintro e w' ⟨rfl,hw'⟩
 have hw2:=hw'.symm
 subst hw2
 cases c8:inB s.missed 0 100000
 ·have Hr:Hid (sysB s=false):=by show _=_;unfold sysB qcf;rw [c1,c2,c3,c4,c5,H6.out,c7,c8];rfl
  go_wp2
  go_ret
  exact ⟨by rw [Hr.out];rfl,kW.trans K5⟩
 cases d9:decide ((400:Int) < (v.r.n:Int))
 rotate_left
 ·have c9:decide (s.trace.length <= 400)=false:=by rw [Hrl.out];simp only [decide_eq_true_eq] at d9;simp only [decide_eq_false_iff_not];omega
  have Hr:Hid (sysB s=false):=by show _=_;unfold sysB qcf;rw [c1,c2,c3,c4,c5,H6.out,c7,c8,c9];rfl
  go_wp2
  go_ret
  exact ⟨by rw [Hr.out];rfl,kW.trans K5⟩
 have HE:Hid (sysB s=(s.tasks.all (fun t=>decide (t.cpu < s.cpus))&&(List.range s.cpus.toNat).all (cpuB s))):=by
  have c9:decide (s.trace.length <= 400)=true:=by rw [Hrl.out];simp only [decide_eq_false_iff_not] at d9;simp only [decide_eq_true_eq];omega
  show _=_
  unfold sysB qcf
  rw [c1,c2,c3,c4,c5,H6.out,c7,c8,c9];rfl
 clear c1 c2 c3 c4 c5 c7 c8
 go_wp2_with fail
 go_loopw [3] (fun i wr=>∃ k:Nat,k <= v.t.n /\ i = .int .i64 k /\ Hid ((s.tasks.take k).all (fun t=>decide (t.cpu < s.cpus))=true) /\ Keeps W wr) (fun i _=>v.t.n - (intOf i).toNat)
 case atStart=>exact ⟨0,Nat.zero_le _,rfl,by show _=_;simp,K5⟩
 case round =>
  obtain ⟨k,hk,rfl,HA,hK⟩:=hrel
  clear K5
  by_cases hlt:k < v.t.n
  ·obtain ⟨t,ht⟩:=qal (xs:=s.tasks) (k:=k) (by rw [hS.out.lay.tl];exact hlt)
   obtain ⟨b,off,ha,r0,r1⟩:=hS.out.lay.t.at ht (by omega)
   have hlt':(k:Int) < (v.t.n:Int):=by omega
   have rc:∀ w',Keeps W w'->w'.cell? ⟨b,off+k*14+2,none⟩=some (.int .i64 t.cpu):=fun w' h=>r1 w' h 2 (by omega)
   have Hstep:Hid ((s.tasks.take (k+1)).all (fun t=>decide (t.cpu < s.cpus))=decide (t.cpu < s.cpus)):=by
    show _=_
    rw [qb6 ht,List.all_append,HA.out]
    simp
   have Hno:Hid (decide (t.cpu < s.cpus)=false->sysB s=false):=fun e=>by
    rw [HE.out,List.all_eq_false.2 ⟨t,List.mem_of_getElem? ht,by rw [e];simp⟩]
    rfl
   clear ht r0 r1 HA
   cases c:decide (s.cpus <= t.cpu)
   rotate_left
   ·have Hr:Hid (sysB s=false):=Hno.out (by simp only [decide_eq_true_eq] at c;simp;omega)
    go_wp2_with fail
    refine wp_region_held_drew (S:=(fun w'=>Keeps W w')) (by kernel_rfl) ?_ (fun hHeld => ?_)
    ·exact hK.drew
    refine Plan.go [0,1,2,3,4,5,6,7,8] ?_
    iterate 9 (refine qac (by simp only [qab];rfl) (by kernel_rfl) (by exact fun _ _ _ h=>h) (by rfl) (by assumption) (fun w _=>by go_simp;try (with_reducible rfl)) ?_;try simp only [qaa])
    refine Plan.nil ?_
    refine wpAnyH_done (by kernel_rfl) ?_ _
    go_wp2
    go_ret
    exact ⟨by rw [Hr.out];rfl,kW.trans hK.drew⟩
   ·have HG:Hid ((s.tasks.take (k+1)).all (fun t=>decide (t.cpu < s.cpus))=true):=by show _=_;rw [Hstep.out];simp only [decide_eq_false_iff_not] at c;simp;omega
    go_wp2_with fail
    refine wp_region_held_drew (S:=(fun w'=>Keeps W w')) (by kernel_rfl) ?_ (fun hHeld => ?_)
    ·exact hK.drew
    refine Plan.go [0,1,2,3,4,5,6,7,8] ?_
    iterate 9 (refine qac (by simp only [qab];rfl) (by kernel_rfl) (by exact fun _ _ _ h=>h) (by rfl) (by assumption) (fun w _=>by go_simp;try (with_reducible rfl)) ?_;try simp only [qaa])
    refine Plan.nil ?_
    refine wpAnyH_done (by kernel_rfl) ?_ _
    go_wp2
    exact ⟨⟨k+1,by omega,by go_num,HG,hK.drew⟩,by simp only [intOf];omega⟩
  ·have hlt':decide ((k:Int) < (v.t.n:Int))=false:=by simp;omega
   have HE2:Hid (sysB s=(List.range s.cpus.toNat).all (cpuB s)):=by
    have h1:=HA.out
    rw [List.take_of_length_le (by have:=hS.out.lay.tl;omega)] at h1
    show _=_
    rw [HE.out,h1];rfl
   clear HA HE
   have Hcf:Hid ((v.f.n:Int)=s.cpus):=by show _=_;simpa [bne] using d6
   obtain ⟨b,off,ha,RF⟩:∃ b off,v.f.a=some ⟨b,off,none⟩ /\ Hid (∀ (j:Nat) (x:Int),s.floors[j]?=some x->∀ w',Keeps W w'->w'.cell? ⟨b,off+j,none⟩=some (.int .i64 x)):=by
    obtain ⟨x0,h0⟩:=qal (xs:=s.floors) (k:=0) (by rw [Hfl.out];have:=Hcf.out;omega)
    obtain ⟨b,off,ha,-⟩:=hS.out.lay.f.at h0
    refine ⟨b,off,ha,fun j x hx w' h => ?_⟩
    obtain ⟨b',off',ha',r⟩:=hS.out.lay.f.at hx
    rw [ha] at ha'
    simp only [Option.some.injEq,Addr.mk.injEq] at ha'
    obtain ⟨rfl,rfl,-⟩:=ha'
    exact r w' h
   go_wp2_with fail
   generalize wr=V at *
   try rw [ha]
   go_loopw [4] (fun i wr=>∃ j:Nat,(j:Int) <= s.cpus /\ i = .int .i64 j /\ Hid ((List.range j).all (cpuB s)=true) /\ Keeps W wr) (fun i _=>s.cpus.toNat - (intOf i).toNat)
   case atStart=>exact ⟨0,by omega,rfl,by show _=_;simp,hK⟩
   case round =>
    obtain ⟨j,hj,rfl,HB,hK2⟩:=hrel
    clear hK
    by_cases hjt:(j:Int) < s.cpus
    rotate_left
    ·have Hr:Hid (sysB s=true):=by
      have e:s.cpus.toNat=j:=by omega
      show _=_
      rw [HE2.out,e,HB.out]
     have hjt':decide ((j:Int) < s.cpus)=false:=by simp;omega
     go_wp2
     go_ret
     exact ⟨by rw [Hr.out];rfl,kW.trans hK2⟩
    have hjf:j < v.f.n:=by have:=Hcf.out;omega
    have hjf':(j:Int) < (v.f.n:Int):=by omega
    obtain ⟨x,hx⟩:=qal (xs:=s.floors) (k:=j) (by rw [Hfl.out];exact hjf)
    have rx:∀ w',Keeps W w'->w'.cell? ⟨b,off+j,none⟩=some (.int .i64 x):=RF.out j x hx
    have Hstep:Hid ((List.range (j+1)).all (cpuB s)=(inB x 0 100000000&&qaL (qan s j))):=by
     show _=_
     rw [List.range_succ,List.all_append,HB.out]
     simp only [List.all_cons,List.all_nil,Bool.and_true,Bool.true_and]
     unfold cpuB
     rw [qcS hx]
    have Hno:Hid ((inB x 0 100000000&&qaL (qan s j))=false->sysB s=false):=fun e=>by
     rw [HE2.out]
     refine List.all_eq_false.2 ⟨j,List.mem_range.2 (by omega),?_⟩
     unfold cpuB
     rw [qcS hx,e];simp
    clear hx HB
    go_wp2_with fail
    refine (qag _ _ _ _).mono ?_
    rintro e w' ⟨rfl,hw'⟩
    have hw2:=hw'.symm
    subst hw2
    cases c1:inB x 0 100000000
    ·have Hr:Hid (sysB s=false):=Hno.out (by rw [c1];rfl)
     go_wp2
     go_ret
     exact ⟨by rw [Hr.out];rfl,kW.trans hK2⟩
    have HS:Hid (SysOn wr v s):=hS.out.keeps hK2
    have SH:Hid (Calls Tryz.prog 32 #[.agg (syc s v),.int .i64 (j:Int)] wr fun e w'=>∃ u,e = .returned u /\ OwnP w' wr.heap.size u (qan s j) /\ Keeps wr w'):=qfF HS.out (j:Int)
    unfold syc at SH
    rw [ha] at SH
    go_wp2_with fail
    refine SH.out.mono ?_
    rintro e w6 ⟨u,rfl,OU,k6⟩
    have HU:Hid (OwnP w6 wr.heap.size u (qan s j)):=OU
    have K6:Keeps W w6:=hK2.trans k6
    clear OU SH k6
    go_wp2_with fail
    refine (qfD HU.out).mono ?_
    rintro e w7 ⟨rfl,k7⟩
    have K7:Keeps W w7:=K6.trans k7
    clear k7 K6
    cases c2:qaL (qan s j)
    ·have Hr:Hid (sysB s=false):=Hno.out (by rw [c1,c2];rfl)
     go_wp2
     go_ret
     exact ⟨by rw [Hr.out];rfl,kW.trans K7⟩
    ·have HG:Hid ((List.range (j+1)).all (cpuB s)=true):=by show _=_;rw [Hstep.out,c1,c2];rfl
     go_wp2
     exact ⟨⟨j+1,by omega,by go_num,HG,K7⟩,by simp only [intOf];omega⟩
end Go.Proofs.YteagpjlgjfaclaaGreatDoor
