/-
  Lists of parts of time: the law's own helpers: a copy is ma
  The walk of FnExactSysNew, over a contract of the program's
  Rows of parts of time, held against each other, marked, and
  The walk of FnExactSharesOn, over a contract of the program
  Ticks, as plain functions: what they leave as it was.
  SumTwo drawn numbers.
  The program's locks: what the functions that only look say.
-/
import Derived.Test.YteagpjlgjfaclaaGreatDoorSum
import Derived.Test.YteagpjlgjfaclaaGreatDoorFrame
import Derived.Test.YteagpjlgjfaclaaGreatDoorSysNewS
import Derived.Deep.RegionHeld3
import Derived.Test.YteagpjlgjfaclaaGreatDoorSysShares
import Derived.Test.YteagpjlgjfaclaaGreatDoorSysLaws
import Derived.Test.YteagpjlgjfaclaaGreatDoorSysAwake
import Derived.Test.YteagpjlgjfaclaaGreatDoorFar
import Derived.Test.YteagpjlgjfaclaaGreatDoorImplLockB
import Derived.Test.YteagpjlgjfaclaaGreatDoorFairList
namespace Go.Proofs.YteagpjlgjfaclaaGreatDoor
open Go.RowKit Plain
attribute [local go_sem] Keeps.refl Keeps.alloc Keeps.drew Keeps.drewN
end Go.Proofs.YteagpjlgjfaclaaGreatDoor
namespace Go.Proofs.YteagpjlgjfaclaaGreatDoor
open Go.RowKit
attribute [local go_sem] Keeps.refl Keeps.alloc Keeps.drew Keeps.drewN
end Go.Proofs.YteagpjlgjfaclaaGreatDoor
namespace Go.Proofs.YteagpjlgjfaclaaGreatDoor
open Go.RowKit
attribute [local go_sem] Keeps.refl Keeps.alloc Keeps.drew Keeps.drewN
end Go.Proofs.YteagpjlgjfaclaaGreatDoor
namespace Go.Proofs.YteagpjlgjfaclaaGreatDoor
open Go.RowKit
attribute [local go_sem] Keeps.refl Keeps.alloc Keeps.drew Keeps.drewN
def qmh:Prop:=∀ (w:World) (v:Sv) (s:Sy) (cpu:Int),SysOn w v s->Calls Tryz.prog 16 #[.agg (syc s v),.int .i64 cpu] w fun e w'=>∃ u,e = .returned u /\ OwnP w' w.heap.size u (qan s cpu) /\ Keeps w w'
end Go.Proofs.YteagpjlgjfaclaaGreatDoor
namespace Go.Proofs.YteagpjlgjfaclaaGreatDoor
open Go.RowKit
theorem qml (s:Sy) (cpu:Int):(qa0 s cpu).cpus=s.cpus /\ (qa0 s cpu).now=s.now /\ qai (qa0 s cpu)=qai s+1 /\ s.seq <= (qa0 s cpu).seq /\ (qa0 s cpu).seq <= s.seq+1:=by
 unfold qa0
 split
 ·refine ⟨rfl,rfl,?_,Int.le_refl _,by show s.seq <= s.seq+1;omega⟩
  simp only [qai,List.length_append,List.length_singleton]
  omega
 ·unfold qeN
  refine ⟨rfl,rfl,?_,?_,?_⟩
  ·simp only [qai,List.length_append,List.length_singleton,List.length_set]
   omega
  ·dsimp only;split <;> omega
  ·dsimp only;split <;> omega
theorem qem (s:Sy):∀ k:Nat,(qaF s k).cpus=s.cpus /\ (qaF s k).now=s.now /\ qai (qaF s k)=qai s+k /\ s.seq <= (qaF s k).seq /\ (qaF s k).seq <= s.seq+k
 | 0=>⟨rfl,rfl,rfl,Int.le_refl _,by simp [qaF]⟩
 | k+1=>by
  obtain ⟨h1,h2,h3,h4,h5⟩:=qem s k
  obtain ⟨g1,g2,g3,g4,g5⟩:=qml (qaF s k) k
  have e:qaF s (k+1)=qa0 (qaF s k) k:=rfl
  rw [e]
  exact ⟨g1.trans h1,g2.trans h2,by omega,by omega,by omega⟩
theorem qhG (s:Sy):qai (qaT s) <= qai s:=by
 have:=List.length_filter_le (fun g=>decide (s.now < g.til)) s.ghosts
 simp only [qaT,qai,List.length_map]
 omega
theorem qmm (now:Int) (t:Tsk):(qbN now t).cpu=t.cpu:=by
 unfold qbN qbZ
 split
 ·split <;> rfl
 ·rfl
theorem qmn {s:Sy} (h:qdV s):qdV (qaT s):=by
 intro t ht
 simp only [qaT,List.mem_map] at ht
 obtain ⟨u,hu,rfl⟩:=ht
 rw [qmm]
 exact h u hu
theorem qhH (s:Sy):qai (qaR s)=qai s:=by simp [qaR,qai]
theorem qhI (s:Sy):qai (qbe s)=qai s:=by simp [qbe,qai]
end Go.Proofs.YteagpjlgjfaclaaGreatDoor
namespace Go.Proofs.YteagpjlgjfaclaaGreatDoor
open Go.RowKit
end Go.Proofs.YteagpjlgjfaclaaGreatDoor
namespace Go.Proofs.YteagpjlgjfaclaaGreatDoor
open Go.RowKit
end Go.Proofs.YteagpjlgjfaclaaGreatDoor
