/-
  The walks of the exact laws of chapter 9 that hand back a n
  The walk of FnExactSysOk, over a contract of the program's
  The program's calls on a system of one's own in a variable:
  What a right system is, limb by limb; it is small.
  The judges as plain functions; of a right system two of the
  The system is marked, and looked at again: as a whole.
-/
import Derived.Test.YteagpjlgjfaclaaGreatDoorSysCopy
import Derived.Test.YteagpjlgjfaclaaGreatDoorSysLocks
import Derived.Test.YteagpjlgjfaclaaGreatDoorSysAwake
import Derived.Deep.RegionHeld3
import Derived.Test.YteagpjlgjfaclaaGreatDoorErrAs
import Derived.Test.YteagpjlgjfaclaaGreatDoorSum
import Derived.Test.YteagpjlgjfaclaaGreatDoorFar
import Derived.Test.YteagpjlgjfaclaaGreatDoorDueSpec
import Derived.Test.YteagpjlgjfaclaaGreatDoorFairList
namespace Go.Proofs.YteagpjlgjfaclaaGreatDoor
open Go.RowKit
attribute [local go_sem] Keeps.refl Keeps.alloc Keeps.drew Keeps.drewN
def qmb:Prop:=∀ (w:World) (v:Sv) (s:Sy) (i no:Int),SysOn w v s->Calls Tryz.prog 156 #[.agg (syc s v),.int .i64 i,.int .i64 no] w fun e w'=>e = .returned (.bool (qaD s i no)) /\ Keeps w w'
end Go.Proofs.YteagpjlgjfaclaaGreatDoor
namespace Go.Proofs.YteagpjlgjfaclaaGreatDoor
open Go.RowKit
attribute [local go_sem] Keeps.refl Keeps.alloc Keeps.drew Keeps.drewN
def qme:Prop:=∀ (w:World) (v:Sv) (s:Sy),GlobE w->SysOn w v s->Calls Tryz.prog 8 #[.agg (syc s v)] w fun e w'=>e = .returned (.bool (sysB s)) /\ Keeps w w'
end Go.Proofs.YteagpjlgjfaclaaGreatDoor
namespace Go.Proofs.YteagpjlgjfaclaaGreatDoor
open Go.RowKit
theorem VarS.g {w:World} {lo ob:Nat} {v:Sv} {vs:List Lv} {s:Sy} (h:VarS w lo ob v vs s):VarG { w with heap:=#[] } lo Sv.zero [] w ob v vs s :=
 ⟨h,⟨h.own,⟨rfl,rfl,rfl,Nat.zero_le _,fun b hb _=>absurd hb (Nat.not_lt_zero b)⟩,fun _ _ _ => .inr (Nat.zero_le _)⟩,Nat.zero_le _⟩
theorem qjw {a b:World} (k:Keeps a b) (row:Option Nat):a.grownBy b row:=⟨k.os,k.tape,k.output,k.size,fun q hq _=>Below.block k q hq⟩
def qd1 (lo ob:Nat) (v:Sv) (vs:List Lv) (s:Sy) (er:Nat->Addr) (n:Nat) (s':Sy) (w:World) (e:Ending) (w':World):Prop :=
 e = .returned (errV er n) /\ TurnsB (fun b=>b=ob∨∃ i,qaf v vs i b) w w' /\ (n=0->∃ v' vs',VarS w' lo ob v' vs' s' /\ ∀ i b,qaf v' vs' i b->(∃ j,qaf v vs j b)∨w.heap.size <= b) /\ ∃ s1 v1,Blk w' ob (syc s1 v1) /\ s1.now=s.now
def qd2 (lo:Nat) (er:Nat->Addr):Prop:=6 < lo /\ ∀ k,1 <= k->k <= 6->(er k).block < lo
theorem qjx {P:Nat->Prop} {lo:Nat} {w w':World} {er:Nat->Addr} (h:Errs w er) (hb:qd2 lo er) (t:TurnsB P w w') (hp:∀ q,P q->lo <= q):Errs w' er:=by
 have hlow:=h.low
 have h1:=hb.1
 have ne:∀ q,q < lo->¬ P q:=fun q hq hP=>by have:=hp q hP;omega
 refine ⟨fun k h1 h2=>(World.cell?_of_block (w:=w) (t.block k (by omega) (ne k (by omega)))).trans (h.var k h1 h2),Nat.lt_of_lt_of_le hlow t.size,h.apart,fun k h1 h2 => ?_⟩
 obtain ⟨c,ty,e⟩:=h.lies k h1 h2
 exact ⟨c,ty,(t.block _ (Array.getElem?_eq_some_iff.1 e).1 (ne _ (hb.2 k h1 h2))).trans e⟩
theorem qeu {lo ob:Nat} {v:Sv} {vs:List Lv} {s:Sy} {er:Nat->Addr} {n m:Nat} {s':Sy} {w X w':World} (VX:VarS X lo ob v vs s) (kX:Keeps w X) (k:Keeps X w') (hn:n=m) (hm:m≠0):qd1 lo ob v vs s er n s' w (.returned (errV er m)) w' :=
 ⟨by rw [hn],TurnsB.of (kX.trans k),fun e=>absurd (hn.symm.trans e) hm,s,v,VX.box.keeps k,rfl⟩
end Go.Proofs.YteagpjlgjfaclaaGreatDoor
namespace Go.Proofs.YteagpjlgjfaclaaGreatDoor
open Go.RowKit
structure SysR (s:Sy):Prop where
 now:0 <= s.now /\ s.now <= 100000
 cpus:1 <= s.cpus /\ s.cpus <= 4
 tasks:qav s.tasks=true
 locks:qbr s=true
 ghosts:qbX s=true
 floors:(s.floors.length:Int)=s.cpus
 seq:0 <= s.seq /\ s.seq <= 1000000
 missed:0 <= s.missed /\ s.missed <= 100000
 trace:s.trace.length <= 400
 on:∀ t∈s.tasks,t.cpu < s.cpus
 cpu:∀ c:Nat,(c:Int) < s.cpus->cpuB s c=true
theorem qcP {s:Sy}:sysB s=true↔SysR s:=by
 unfold sysB qcf
 simp only [Bool.and_eq_true,qas,List.all_eq_true,decide_eq_true_eq,beq_iff_eq,List.mem_range]
 constructor
 ·rintro ⟨⟨h1,h2,h3,h4,h5,h6,h7,h8,h9⟩,h10,h11⟩
  exact ⟨h1,h2,h3,h4,h5,h6,h7,h8,h9,h10,fun c hc=>h11 c (by omega)⟩
 ·intro h
  exact ⟨⟨h.now,h.cpus,h.tasks,h.locks,h.ghosts,h.floors,h.seq,h.missed,h.trace⟩,h.on,fun c hc=>h.cpu c (by omega)⟩
theorem qhA {t:Tsk} (h:qah t=true):0 <= t.cpu /\ t.cpu <= 3:=by
 unfold qah at h
 simp only [Bool.and_eq_true,qas] at h
 exact h.1.1.1.2
theorem SysR.onCpus {s:Sy} (h:SysR s):qdV s:=by
 intro t ht
 obtain ⟨i,hi⟩:=List.mem_iff_getElem?.1 ht
 have:=qhA (qhQ h.tasks hi)
 have:=h.on t ht
 have:=h.floors
 omega
theorem SysR.few {s:Sy} (h:SysR s):s.tasks.length <= 12 /\ qaj s.locks <= 1005 /\ s.ghosts.length <= 12 /\ s.floors.length <= 4:=by
 have h1:=qeQ h.tasks
 have h2:=h.locks
 unfold qbr at h2
 simp only [Bool.and_eq_true,beq_iff_eq] at h2
 have h3:=(qd7.1 h2.2.1).few
 have h4:=h.ghosts
 unfold qbX at h4
 simp only [Bool.and_eq_true,decide_eq_true_eq] at h4
 have h5:=h.floors
 have h6:=h.cpus
 refine ⟨h1,?_,h4.2,by omega⟩
 unfold qaj
 omega
theorem SysR.small {s:Sy} (h:SysR s):qai s <= 1500:=by
 obtain ⟨h1,h2,h3,h4⟩:=h.few
 have:=h.trace
 unfold qai
 omega
end Go.Proofs.YteagpjlgjfaclaaGreatDoor
namespace Go.Proofs.YteagpjlgjfaclaaGreatDoor
open Go.RowKit
end Go.Proofs.YteagpjlgjfaclaaGreatDoor
namespace Go.Proofs.YteagpjlgjfaclaaGreatDoor
open Go.RowKit
attribute [local go_sem] Keeps.refl Keeps.alloc Keeps.drew Keeps.drewN
end Go.Proofs.YteagpjlgjfaclaaGreatDoor
