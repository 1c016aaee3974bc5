/-
  What is right about a system, as the program's seven invari
-/
import Derived.Test.YthpdlbcdbncnhaaGreatDoorGSys4
import Derived.Test.YthpdlbcdbncnhaaGreatDoorGPure2
namespace Go.Proofs.YthpdlbcdbncnhaaGreatDoor
open Go.RowKit
def qbt (s : Sy) (cpu : Int) : Bool := decide (0 <= cpu) && decide (cpu < s.cpus)
def qbO (s : Sy) (i : Nat) (l : Lk) : Bool := l.waits.all (fun x => qaC s i x) && (l.owner == 0 || qaC s i l.owner)
def inv0 (s : Sy) : Bool := inB s.now 0 100000 && inB s.cpus 1 4
def inv1 (s : Sy) : Bool := s.tasks.all (fun t => qbt s t.cpu) && qaA s.tasks
def inv2 (s : Sy) : Bool := s.locks.length == 5 && (qaw s.locks && (List.range s.locks.length).all (fun i => qbO s i (s.locks.getD i ⟨0, []⟩)))
def qdb (s : Sy) (g : Gh) : Bool := qbt s g.cpu && (okB g.q g.p && inB g.til 0 100040)
def inv3 (s : Sy) : Bool := s.ghosts.all (qdb s) && decide (s.ghosts.length <= 12)
def inv4 (s : Sy) : Bool := (List.range s.cpus.toNat).all (fun c => qbU (qaJ s (c : Int)))
def inv5 (s : Sy) : Bool := s.floors.all (fun f => inB f 0 100000000) && ((s.floors.length : Int) == s.cpus)
def inv6 (s : Sy) : Bool := inB s.seq 0 1000000 && (inB s.missed 0 100000 && decide (s.trace.length <= 400))
def qeb (s : Sy) : Bool := inv0 s && (inv1 s && (inv2 s && (inv3 s && (inv4 s && (inv5 s && inv6 s)))))
theorem qhs (s : Sy) (c : Int) : qbt s c = inB c 0 (s.cpus - 1) := by
 rw [Bool.eq_iff_iff]
 unfold qbt
 simp only [Bool.and_eq_true, decide_eq_true_eq, qau]
 omega
theorem qlI (s : Sy) : inv3 s = qbN s := by
 have : qdb s = ghB s.cpus := by
  funext g
  unfold qdb ghB
  rw [qhs]
 unfold inv3 qbN
 rw [this]
theorem qeB {s : Sy} {i : Nat} {l : Lk} {x : Int} (hl : s.locks[i]? = some l) : qaC s i x = true ↔ qam s.tasks x = true /\ (l.owner = 0 ∨ (qam s.tasks l.owner = true /\ (tAt s.tasks l.owner).cpu = (tAt s.tasks x).cpu)) := by
 have hlt := qat hl
 have h1 : inB (i : Int) 0 ((s.locks.length : Int) - 1) = true := qau.2 (by omega)
 unfold qaC
 rw [h1, Int.toNat_natCast, qbK hl]
 simp only [Bool.true_and, Bool.and_eq_true, Bool.or_eq_true, beq_iff_eq]
theorem qlJ {s : Sy} : inv2 s = true ↔ qbj s = true := by
 unfold inv2 qbj
 simp only [Bool.and_eq_true]
 constructor
 ·rintro ⟨h1, h2, h3⟩
  refine ⟨h1, h2, ?_⟩
  rw [List.all_eq_true] at h3 ⊢
  intro l hm
  obtain ⟨i, hi⟩ := List.mem_iff_getElem?.1 hm
  have hlt := qat hi
  have h := h3 i (List.mem_range.2 hlt)
  rw [qcM hi] at h
  unfold qbO at h
  simp only [Bool.and_eq_true, List.all_eq_true, Bool.or_eq_true, beq_iff_eq] at h
  unfold qbF
  simp only [Bool.or_eq_true, beq_iff_eq, Bool.and_eq_true, List.all_eq_true]
  by_cases h0 : l.owner = 0
  ·exact .inl h0
  ·refine .inr ⟨?_, fun x hx => ?_⟩
   ·rcases h.2 with h4 | h4
    ·exact absurd h4 h0
    ·exact ((qeB hi).1 h4).1
   ·obtain ⟨h5, h6⟩ := (qeB hi).1 (h.1 x hx)
    rcases h6 with h6 | h6
    ·exact absurd h6 h0
    ·unfold qb3
     simp only [Bool.and_eq_true, beq_iff_eq]
     exact ⟨h5, h6.2.symm⟩
 ·rintro ⟨h1, h2, h3⟩
  refine ⟨h1, h2, ?_⟩
  rw [List.all_eq_true] at h3 ⊢
  intro i hm
  have hlt := List.mem_range.1 hm
  obtain ⟨l, hi⟩ := qak hlt
  rw [qcM hi]
  have h := h3 l (List.mem_iff_getElem?.2 ⟨i, hi⟩)
  unfold qbF at h
  simp only [Bool.or_eq_true, beq_iff_eq, Bool.and_eq_true, List.all_eq_true] at h
  unfold qbO
  simp only [Bool.and_eq_true, List.all_eq_true, Bool.or_eq_true, beq_iff_eq]
  rcases h with h | ⟨h4, h5⟩
  ·have hw := (qdW.1 h2).free i l hi h
   exact ⟨fun x hx => by rw [hw] at hx; simp at hx, .inl h⟩
  ·refine ⟨fun x hx => ?_, .inr ((qeB hi).2 ⟨h4, .inr ⟨h4, rfl⟩⟩)⟩
   have h6 := h5 x hx
   unfold qb3 at h6
   simp only [Bool.and_eq_true, beq_iff_eq] at h6
   exact (qeB hi).2 ⟨h6.1, .inr ⟨h4, h6.2.symm⟩⟩
theorem qlK (s : Sy) : qeb s = sysB s := by
 rw [Bool.eq_iff_iff, qb9]
 unfold qeb
 rw [qlI]
 simp only [Bool.and_eq_true, qlJ]
 unfold inv0 inv1 inv4 inv5 inv6
 simp only [Bool.and_eq_true, qau, List.all_eq_true, decide_eq_true_eq, beq_iff_eq, List.mem_range, qhs]
 constructor
 ·rintro ⟨⟨h1, h2⟩, ⟨h3, h4⟩, h5, h6, h7, ⟨h8, h9⟩, h10, h11, h12⟩
  refine ⟨h1, h2, h4, h5, h6, h9, h10, h11, h12, fun t ht => by have := h3 t ht; omega, fun c hc => ?_⟩
  unfold cpuB
  obtain ⟨x, hx⟩ := qak (xs := s.floors) (k := c) (by omega)
  rw [qcM hx]
  simp only [Bool.and_eq_true, qau]
  exact ⟨h8 x (List.mem_iff_getElem?.2 ⟨c, hx⟩), h7 c (by omega)⟩
 ·intro h
  refine ⟨⟨h.now, h.cpus⟩, ⟨fun t ht => ?_, h.tasks⟩, h.locks, h.ghosts, fun c hc => ?_, ⟨fun x hx => ?_, h.floors⟩, h.seq, h.missed, h.trace⟩
  ·obtain ⟨i, hi⟩ := List.mem_iff_getElem?.1 ht
   have := qg8 (qdI h.tasks hi)
   have := h.on t ht
   omega
  ·have := h.cpu c (by omega)
   unfold cpuB at this
   simp only [Bool.and_eq_true] at this
   exact this.2
  ·obtain ⟨c, hc⟩ := List.mem_iff_getElem?.1 hx
   have hlt := qat hc
   have := h.cpu c (by have := h.floors; omega)
   unfold cpuB at this
   rw [qcM hc] at this
   simp only [Bool.and_eq_true, qau] at this
   exact this.1
end Go.Proofs.YthpdlbcdbncnhaaGreatDoor
