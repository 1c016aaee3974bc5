/-
  The program's locks: copies of them, and what may be passed
  The program's system: floors, whether a task is of the same
-/
import Derived.Test.YthpdlbcdbncnhaaGreatDoorGIlock1
import Derived.Test.YthpdlbcdbncnhaaGreatDoorGBase1
import Derived.Test.YthpdlbcdbncnhaaGreatDoorGLock3
import Derived.Deep.Cut
import Derived.Test.YthpdlbcdbncnhaaGreatDoorGPure1
import Derived.Test.YthpdlbcdbncnhaaGreatDoorGSys5
import Derived.Test.YthpdlbcdbncnhaaGreatDoorGSys4
import Derived.Test.YthpdlbcdbncnhaaGreatDoorGSys6
import Derived.Test.YthpdlbcdbncnhaaGreatDoorGItask2
import Derived.Deep.RegionHeld3
import Derived.RegionTactic
import Derived.BigRegion
namespace Go.Proofs.YthpdlbcdbncnhaaGreatDoor
set_option maxRecDepth 100000
open Go.RowKit
attribute [local go_sem] Keeps.refl Keeps.alloc Keeps.drew Keeps.drewN
theorem qlt (a:Option Addr) (cap n:Nat) (i:Int) (w:World) (hl:n <= maxLen) :
  Calls Tryz.prog 234 #[.slice a n cap,.int .i64 i] w fun e w'=>e = .returned (.bool (inB i 0 ((n:Int) - 1))) /\ w'=w:=by
 unfold maxLen at hl
 have ewrap:IntKind.i64.wrap ((n:Int) - 1)=(n:Int) - 1:=Go.IntWalk.i64_in _ (by omega)
 obtain ⟨q,Hq⟩:∃ q,Hid (inB i 0 ((n:Int) - 1)=q):=⟨_,rfl⟩
 rw [Hq.out]
 go_enter Tryz.func234,Tryz.ntmps234
 go_wp2_with (go_at_call 104;refine (qaI _ _ _ _).mono ?_;rintro e w' ⟨rfl,hw'⟩;have hw2:=hw'.symm;subst hw2;rw [Hq.out])
 go_ret
 exact ⟨rfl,rfl⟩
end Go.Proofs.YthpdlbcdbncnhaaGreatDoor
namespace Go.Proofs.YthpdlbcdbncnhaaGreatDoor
set_option maxRecDepth 100000
open Go.RowKit
attribute [local go_sem] Keeps.refl Keeps.alloc Keeps.drew Keeps.drewN
theorem qos:qn0:=by
 intro w v s cpu h
 have hm:v.f.n <= 2000000:=by have:=h.size;have:=h.lay.fl;unfold qaj at *;omega
 have e1:IntKind.i64.wrap ((v.f.n:Int) - 1)=(v.f.n:Int) - 1:=Go.IntWalk.i64_in _ (by omega)
 have HF:Hid (qbu s cpu=if inB cpu 0 ((v.f.n:Int) - 1) then s.floors.getD cpu.toNat 0 else 0):=by show _=_;unfold qbu;rw [h.lay.fl]
 cases hc:inB cpu 0 ((v.f.n:Int) - 1)
 ·have Hr:Hid (qbu s cpu=0):=by show _=_;rw [HF.out,hc];rfl
  go_enter Tryz.func102,Tryz.ntmps102
  go_wp2_with (go_at_call 104;refine (qaI _ _ _ _).mono ?_;rintro e w' ⟨rfl,hw'⟩;have hw2:=hw'.symm;subst hw2;rw [hc])
  go_ret
  exact ⟨by rw [Hr.out];rfl,(Keeps.refl _).alloc _⟩
 ·obtain ⟨c0,c1⟩:=qap.1 hc
  obtain ⟨k,rfl⟩:∃ k:Nat,cpu=(k:Int):=⟨cpu.toNat,by omega⟩
  obtain ⟨x,hx⟩:=qai (xs:=s.floors) (k:=k) (by rw [h.lay.fl];omega)
  obtain ⟨b,off,ha,r0⟩:=h.lay.f.at hx
  have Hr:Hid (qbu s k=x):=by show _=_;rw [HF.out,hc,if_pos rfl,Int.toNat_natCast,qbM hx]
  have hlt:(k:Int) < (v.f.n:Int):=by omega
  have r1:∀ w',Keeps w w'->w'.cell? ⟨b,off+k,none⟩=some (.int .i64 x):=r0
  clear HF hx r0 h
  go_enter Tryz.func102,Tryz.ntmps102
  go_wp2_with (go_at_call 104;refine (qaI _ _ _ _).mono ?_;rintro e w' ⟨rfl,hw'⟩;have hw2:=hw'.symm;subst hw2;rw [hc])
  go_ret
  exact ⟨by rw [Hr.out];rfl,(Keeps.refl _).alloc _⟩
theorem OnT.mTaskAt {w w':World} {a:Option Addr} {n cap:Nat} {ts:List Tsk} (h:OnT w a n cap ts) (x:Int) {z:Int} (hz:qar ts x=z) (k:Keeps w w'):Calls Tryz.prog 17 #[.slice a n cap,.int .i64 x] w' fun e w''=>e = .returned (.int .i64 z) /\ Keeps w' w'':=by
 have:=qhG a cap ts x w' h.small (h.keeps k).lies
 rw [h.len,hz] at this
 exact this
set_option maxHeartbeats 8000000 in
theorem qot:qnZ:=by
 intro w v s i no h
 have hm:v.t.n <= 2000000 /\ v.l.n <= 2000000:=by have:=h.size;have:=h.lay.ll;have:=h.lay.tl;have:=qdw s.locks;unfold qaj at *;omega
 obtain ⟨hm1,hm2⟩:=hm
 have kW:=blkK w (.cells (syc s v) 37)
 have hb:=blkR w (syc s v) 37
 have hT:Hid (OnT (w.alloc (.cells (syc s v) 37)) v.t.a v.t.n v.t.cap s.tasks):=h.onT.keeps kW
 have hL:Hid (On (w.alloc (.cells (syc s v) 37)) v.l.a v.l.n v.l.cap s.locks):=h.onL.keeps kW
 have HE:Hid (qaD s i no=(inB i 0 ((v.l.n:Int) - 1)&&(qag s.tasks no&&(qaB s.locks i.toNat==0||(qag s.tasks (qaB s.locks i.toNat)&&(tAt s.tasks (qaB s.locks i.toNat)).cpu==(tAt s.tasks no).cpu))))):=by show _=_;unfold qaD;rw [hL.out.len]
 clear h
 obtain ⟨pa,Hpa⟩:∃ pa,Hid (qar s.tasks no=pa):=⟨_,rfl⟩
 go_enter Tryz.func210,Tryz.ntmps210
 go_wp2_with fail
 generalize w.alloc (.cells (syc s v) 37)=W at *
 refine (hT.out.mTaskAt no Hpa.out (Keeps.refl _)).mono ?_
 rintro e w1 ⟨rfl,k1⟩
 cases c2:decide (pa < 0)
 rotate_left
 ·have Hr:Hid (qaD s i no=false):=by show _=_;rw [HE.out];unfold qag;rw [Hpa.out,c2];simp
  go_wp2
  go_ret
  exact ⟨by rw [Hr.out];rfl,kW.trans k1⟩
 have hth:qag s.tasks no=true:=by unfold qag;rw [Hpa.out,c2];rfl
 obtain ⟨ka,ta,ea,hta,-⟩:=qbV.1 hth
 have Hta:Hid (tAt s.tasks no=ta):=qcE ea hta
 obtain rfl:pa=(ka:Int):=by rw [<- Hpa.out];exact ea
 have HLa:Hid (∀ w',Calls Tryz.prog 234 #[.slice v.l.a v.l.n v.l.cap,.int .i64 i] w' fun e w''=>e = .returned (.bool (inB i 0 ((v.l.n:Int) - 1))) /\ w''=w'):=fun w'=>qlt v.l.a v.l.cap v.l.n i w' (by unfold maxLen;omega)
 cases c1:inB i 0 ((v.l.n:Int) - 1)
 ·have Hr:Hid (qaD s i no=false):=by show _=_;rw [HE.out,c1];rfl
  rw [c1] at HLa
  go_wp2_with (go_at_call 234;refine (HLa.out _).mono ?_;rintro e w' ⟨rfl,hw'⟩;have hw2:=hw'.symm;subst hw2)
  go_ret
  exact ⟨by rw [Hr.out];rfl,kW.trans k1⟩
 rw [c1] at HLa
 have hka:ka < v.t.n:=by have:=qas hta;rw [hT.out.len] at this;exact this
 have hkai:(ka:Int) < (v.t.n:Int):=by omega
 obtain ⟨bt,ot,hat,rt⟩:=hT.out.all (by omega)
 have ra:∀ w',Keeps W w'->w'.cell? ⟨bt,ot+ka*14+2,none⟩=some (.int .i64 ta.cpu):=fun w' h=>(rt ka ta hta).2 w' h 2 (by omega)
 have RT:Hid (∀ (i:Nat) (t:Tsk),s.tasks[i]?=some t->∀ w',Keeps W w'->w'.cell? ⟨bt,ot+i*14+2,none⟩=some (.int .i64 t.cpu)):=fun i t ht w' h=>(rt i t ht).2 w' h 2 (by omega)
 obtain ⟨i0,i1⟩:=qap.1 c1
 obtain ⟨k,rfl⟩:∃ k:Nat,i=(k:Int):=⟨i.toNat,by omega⟩
 obtain ⟨l,hl⟩:=qai (xs:=s.locks) (k:=k) (by rw [hL.out.len];omega)
 obtain ⟨hkn,b,off,a',cap',ha,r0,-,-,-⟩:=hL.out.at hl
 have hki:(k:Int) < (v.l.n:Int):=by omega
 rw [ha] at HLa
 have HE2:Hid (qaD s k no=(l.owner==0||(qag s.tasks l.owner&&(tAt s.tasks l.owner).cpu==ta.cpu))):=by
  show _=_
  rw [HE.out,c1,hth,Int.toNat_natCast,qbS hl,Hta.out]
  rfl
 obtain ⟨po,Hpo⟩:∃ po,Hid (qar s.tasks l.owner=po):=⟨_,rfl⟩
 have TA:Hid (∀ w',Keeps W w'->Calls Tryz.prog 17 #[.slice v.t.a v.t.n v.t.cap,.int .i64 l.owner] w' fun e w''=>e = .returned (.int .i64 po) /\ Keeps w' w''):=fun w' h=>hT.out.mTaskAt l.owner Hpo.out h
 rw [hat] at TA
 clear hth ea hta rt Hpa hl HE
 cases c3:(l.owner==0)
 rotate_left
 ·have Hr:Hid (qaD s k no=true):=by show _=_;rw [HE2.out,c3];rfl
  go_wp2_with (go_at_call 234;refine (HLa.out _).mono ?_;rintro e w' ⟨rfl,hw'⟩;have hw2:=hw'.symm;subst hw2)
  go_ret
  exact ⟨by rw [Hr.out];rfl,kW.trans k1⟩
 go_wp2_with (first
  | (go_at_call 234;refine (HLa.out _).mono ?_;rintro e w' ⟨rfl,hw'⟩;have hw2:=hw'.symm;subst hw2)
  | (go_at_call 17;refine (TA.out _ k1).mono ?_;rintro e w5 ⟨rfl,k5⟩;have K5:=k1.trans k5))
 clear TA
 cases c4:decide (0 <= po)
 ·have Hr:Hid (qaD s k no=false):=by
   have:qag s.tasks l.owner=false:=by unfold qag;rw [Hpo.out];simp only [decide_eq_false_iff_not] at c4;simp;omega
   show _=_
   rw [HE2.out,c3,this];rfl
  refine wp_region_held_drew (S:=(fun w'=>Keeps W w')) (by kernel_rfl) ?_ (fun hHeld => ?_)
  ·exact K5.drew
  refine Plan.go [0,1,2] ?_
  iterate 3 (refine qac (by simp only [qab];rfl) (by kernel_rfl) (by exact fun _ _ _ h=>h) (by rfl) (by assumption) (fun w _=>by go_simp;try (with_reducible rfl)) ?_;try simp only [qaa])
  refine Plan.nil ?_
  refine Plan.go [3,4,5,6,7,8,9,10,11,12,13,14,15] ?_
  iterate 13 (refine qaq (by simp only [qab];rfl) (by kernel_rfl) (by exact fun _ _ _ h=>h) (by rfl) (by assumption) ?_;try simp only [qaa])
  refine Plan.nil ?_
  refine Plan.go [16,17] ?_
  iterate 2 (refine qac (by simp only [qab];rfl) (by kernel_rfl) (by exact fun _ _ _ h=>h) (by rfl) (by assumption) (fun w _=>by go_simp;try (with_reducible rfl)) ?_;try simp only [qaa])
  refine Plan.nil ?_
  refine wpAnyH_done (by kernel_rfl) ?_ _
  go_wp2
  go_ret
  exact ⟨by rw [Hr.out];rfl,kW.trans K5.drew⟩
 have htho:qag s.tasks l.owner=true:=by unfold qag;rw [Hpo.out];simp only [decide_eq_true_eq] at c4;simp;omega
 obtain ⟨kx,tx,ex,htx,-⟩:=qbV.1 htho
 have Htx:Hid (tAt s.tasks l.owner=tx):=qcE ex htx
 obtain rfl:po=(kx:Int):=by rw [<- Hpo.out];exact ex
 have hkx:kx < v.t.n:=by have:=qas htx;rw [hT.out.len] at this;exact this
 have hkxi:(kx:Int) < (v.t.n:Int):=by omega
 have rx:∀ w',Keeps W w'->w'.cell? ⟨bt,ot+kx*14+2,none⟩=some (.int .i64 tx.cpu):=fun w' h=>RT.out kx tx htx w' h
 have Hr:Hid (qaD s k no=(tx.cpu==ta.cpu)):=by show _=_;rw [HE2.out,c3,htho,Htx.out];rfl
 clear htho ex htx Hpo
 refine wp_region_held_drew (S:=(fun w'=>Keeps W w')) (by kernel_rfl) ?_ (fun hHeld => ?_)
 ·exact K5.drew
 refine Plan.go [0,1,2,3,4,5,6,7,8,9,10,11,12,13,14,15,16,17] ?_
 iterate 18 (refine qac (by simp only [qab];rfl) (by kernel_rfl) (by exact fun _ _ _ h=>h) (by rfl) (by assumption) (fun w _=>by go_simp;try (with_reducible rfl)) ?_;try simp only [qaa])
 refine Plan.nil ?_
 refine wpAnyH_done (by kernel_rfl) ?_ _
 go_wp2
 go_ret
 exact ⟨by rw [Hr.out];rfl,kW.trans K5.drew⟩
end Go.Proofs.YthpdlbcdbncnhaaGreatDoor
