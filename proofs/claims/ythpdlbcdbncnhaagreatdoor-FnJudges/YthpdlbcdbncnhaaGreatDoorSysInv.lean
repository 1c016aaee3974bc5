/-
  What is right about a system, as the program's seven invari
-/
import Derived.Test.YthpdlbcdbncnhaaGreatDoorGSys4
import Derived.Test.YthpdlbcdbncnhaaGreatDoorGPure2
namespace Go.Proofs.YthpdlbcdbncnhaaGreatDoor
open Go.RowKit
def qbN (s:Sy) (cpu:Int):Bool:=decide (0 <= cpu)&&decide (cpu < s.cpus)
def qb7 (s:Sy) (i:Nat) (l:Lk):Bool:=l.waits.all (fun x=>qaD s i x)&&(l.owner==0||qaD s i l.owner)
def inv0 (s:Sy):Bool:=inB s.now 0 100000&&inB s.cpus 1 4
def inv1 (s:Sy):Bool:=s.tasks.all (fun t=>qbN s t.cpu)&&qao s.tasks
def inv2 (s:Sy):Bool:=s.locks.length==5&&(qav s.locks&&(List.range s.locks.length).all (fun i=>qb7 s i (s.locks.getD i ⟨0,[]⟩)))
def qdF (s:Sy) (g:Gh):Bool:=qbN s g.cpu&&(okB g.q g.p&&inB g.til 0 100040)
def inv3 (s:Sy):Bool:=s.ghosts.all (qdF s)&&decide (s.ghosts.length <= 12)
def inv4 (s:Sy):Bool:=(List.range s.cpus.toNat).all (fun c=>qcg (qaL s (c:Int)))
def inv5 (s:Sy):Bool:=s.floors.all (fun f=>inB f 0 100000000)&&((s.floors.length:Int)==s.cpus)
def inv6 (s:Sy):Bool:=inB s.seq 0 1000000&&(inB s.missed 0 100000&&decide (s.trace.length <= 400))
def qeW (s:Sy):Bool:=inv0 s&&(inv1 s&&(inv2 s&&(inv3 s&&(inv4 s&&(inv5 s&&inv6 s)))))
theorem qi7 (s:Sy) (c:Int):qbN s c=inB c 0 (s.cpus - 1):=by
 rw [Bool.eq_iff_iff]
 unfold qbN
 simp only [Bool.and_eq_true,decide_eq_true_eq,qap]
 omega
theorem qoU (s:Sy):inv3 s=qb4 s:=by
 have:qdF s=ghB s.cpus:=by
  funext g
  unfold qdF ghB
  rw [qi7]
 unfold inv3 qb4
 rw [this]
theorem qfp {s:Sy} {i:Nat} {l:Lk} {x:Int} (hl:s.locks[i]?=some l):qaD s i x=true↔qag s.tasks x=true /\ (l.owner=0∨(qag s.tasks l.owner=true /\ (tAt s.tasks l.owner).cpu=(tAt s.tasks x).cpu)):=by
 have hlt:=qas hl
 have h1:inB (i:Int) 0 ((s.locks.length:Int) - 1)=true:=qap.2 (by omega)
 unfold qaD
 rw [h1,Int.toNat_natCast,qbS hl]
 simp only [Bool.true_and,Bool.and_eq_true,Bool.or_eq_true,beq_iff_eq]
theorem qoV {s:Sy}:inv2 s=true↔qbo s=true:=by
 unfold inv2 qbo
 simp only [Bool.and_eq_true]
 constructor
 ·rintro ⟨h1,h2,h3⟩
  refine ⟨h1,h2,?_⟩
  rw [List.all_eq_true] at h3 ⊢
  intro l hm
  obtain ⟨i,hi⟩:=List.mem_iff_getElem?.1 hm
  have hlt:=qas hi
  have h:=h3 i (List.mem_range.2 hlt)
  rw [qbM hi] at h
  unfold qb7 at h
  simp only [Bool.and_eq_true,List.all_eq_true,Bool.or_eq_true,beq_iff_eq] at h
  unfold qbG
  simp only [Bool.or_eq_true,beq_iff_eq,Bool.and_eq_true,List.all_eq_true]
  by_cases h0:l.owner=0
  ·exact .inl h0
  ·refine .inr ⟨?_,fun x hx => ?_⟩
   ·rcases h.2 with h4 | h4
    ·exact absurd h4 h0
    ·exact ((qfp hi).1 h4).1
   ·obtain ⟨h5,h6⟩:=(qfp hi).1 (h.1 x hx)
    rcases h6 with h6 | h6
    ·exact absurd h6 h0
    ·unfold qcf
     simp only [Bool.and_eq_true,beq_iff_eq]
     exact ⟨h5,h6.2.symm⟩
 ·rintro ⟨h1,h2,h3⟩
  refine ⟨h1,h2,?_⟩
  rw [List.all_eq_true] at h3 ⊢
  intro i hm
  have hlt:=List.mem_range.1 hm
  obtain ⟨l,hi⟩:=qai hlt
  rw [qbM hi]
  have h:=h3 l (List.mem_iff_getElem?.2 ⟨i,hi⟩)
  unfold qbG at h
  simp only [Bool.or_eq_true,beq_iff_eq,Bool.and_eq_true,List.all_eq_true] at h
  unfold qb7
  simp only [Bool.and_eq_true,List.all_eq_true,Bool.or_eq_true,beq_iff_eq]
  rcases h with h | ⟨h4,h5⟩
  ·have hw:=(qec.1 h2).free i l hi h
   exact ⟨fun x hx=>by rw [hw] at hx;simp at hx,.inl h⟩
  ·refine ⟨fun x hx => ?_,.inr ((qfp hi).2 ⟨h4,.inr ⟨h4,rfl⟩⟩)⟩
   have h6:=h5 x hx
   unfold qcf at h6
   simp only [Bool.and_eq_true,beq_iff_eq] at h6
   exact (qfp hi).2 ⟨h6.1,.inr ⟨h4,h6.2.symm⟩⟩
theorem qoW (s:Sy):qeW s=sysB s:=by
 rw [Bool.eq_iff_iff,qbh]
 unfold qeW
 rw [qoU]
 simp only [Bool.and_eq_true,qoV]
 unfold inv0 inv1 inv4 inv5 inv6
 simp only [Bool.and_eq_true,qap,List.all_eq_true,decide_eq_true_eq,beq_iff_eq,List.mem_range,qi7]
 constructor
 ·rintro ⟨⟨h1,h2⟩,⟨h3,h4⟩,h5,h6,h7,⟨h8,h9⟩,h10,h11,h12⟩
  refine ⟨h1,h2,h4,h5,h6,h9,h10,h11,h12,fun t ht=>by have:=h3 t ht;omega,fun c hc => ?_⟩
  unfold cpuB
  obtain ⟨x,hx⟩:=qai (xs:=s.floors) (k:=c) (by omega)
  rw [qbM hx]
  simp only [Bool.and_eq_true,qap]
  exact ⟨h8 x (List.mem_iff_getElem?.2 ⟨c,hx⟩),h7 c (by omega)⟩
 ·intro h
  refine ⟨⟨h.now,h.cpus⟩,⟨fun t ht => ?_,h.tasks⟩,h.locks,h.ghosts,fun c hc => ?_,⟨fun x hx => ?_,h.floors⟩,h.seq,h.missed,h.trace⟩
  ·obtain ⟨i,hi⟩:=List.mem_iff_getElem?.1 ht
   have:=qiN (qct h.tasks hi)
   have:=h.on t ht
   omega
  ·have:=h.cpu c (by omega)
   unfold cpuB at this
   simp only [Bool.and_eq_true] at this
   exact this.2
  ·obtain ⟨c,hc⟩:=List.mem_iff_getElem?.1 hx
   have hlt:=qas hc
   have:=h.cpu c (by have:=h.floors;omega)
   unfold cpuB at this
   rw [qbM hc] at this
   simp only [Bool.and_eq_true,qap] at this
   exact this.1
end Go.Proofs.YthpdlbcdbncnhaaGreatDoor
