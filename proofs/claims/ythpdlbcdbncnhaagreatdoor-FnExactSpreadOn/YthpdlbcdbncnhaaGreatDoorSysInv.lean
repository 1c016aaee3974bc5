/-
  What is right about a system, as the program's seven invariants in a row.
-/
import Derived.Test.YthpdlbcdbncnhaaGreatDoorGSys4
import Derived.Test.YthpdlbcdbncnhaaGreatDoorGPure2
namespace Go.Proofs.YthpdlbcdbncnhaaGreatDoor
open Go.RowKit

def hasCpuB (s : Sy) (cpu : Int) : Bool := decide (0 ≤ cpu) && decide (cpu < s.cpus)
def oneCpuB (s : Sy) (i : Nat) (l : Lk) : Bool := l.waits.all (fun x => sameB s i x) && (l.owner == 0 || sameB s i l.owner)
def inv0 (s : Sy) : Bool := inB s.now 0 100000 && inB s.cpus 1 4
def inv1 (s : Sy) : Bool := s.tasks.all (fun t => hasCpuB s t.cpu) && tasksB s.tasks
def inv2 (s : Sy) : Bool := s.locks.length == 5 && (locksB s.locks && (List.range s.locks.length).all (fun i => oneCpuB s i (s.locks.getD i ⟨0, []⟩)))
def ghostB (s : Sy) (g : Gh) : Bool := hasCpuB s g.cpu && (okB g.q g.p && inB g.til 0 100040)
def inv3 (s : Sy) : Bool := s.ghosts.all (ghostB s) && decide (s.ghosts.length ≤ 12)
def inv4 (s : Sy) : Bool := (List.range s.cpus.toNat).all (fun c => fitsL (sharesL s (c : Int)))
def inv5 (s : Sy) : Bool := s.floors.all (fun f => inB f 0 100000000) && ((s.floors.length : Int) == s.cpus)
def inv6 (s : Sy) : Bool := inB s.seq 0 1000000 && (inB s.missed 0 100000 && decide (s.trace.length ≤ 400))
def invsB (s : Sy) : Bool := inv0 s && (inv1 s && (inv2 s && (inv3 s && (inv4 s && (inv5 s && inv6 s)))))

theorem hasCpuB_is (s : Sy) (c : Int) : hasCpuB s c = inB c 0 (s.cpus - 1) := by
  rw [Bool.eq_iff_iff]
  unfold hasCpuB
  simp only [Bool.and_eq_true, decide_eq_true_eq, inB_iff]
  omega
theorem inv3_is (s : Sy) : inv3 s = ghostsB s := by
  have : ghostB s = ghB s.cpus := by
    funext g
    unfold ghostB ghB
    rw [hasCpuB_is]
  unfold inv3 ghostsB
  rw [this]
theorem sameB_iff {s : Sy} {i : Nat} {l : Lk} {x : Int} (hl : s.locks[i]? = some l) : sameB s i x = true ↔ thereB s.tasks x = true ∧ (l.owner = 0 ∨ (thereB s.tasks l.owner = true ∧ (tAt s.tasks l.owner).cpu = (tAt s.tasks x).cpu)) := by
  have hlt := lt_of_some hl
  have h1 : inB (i : Int) 0 ((s.locks.length : Int) - 1) = true := inB_iff.2 (by omega)
  unfold sameB
  rw [h1, Int.toNat_natCast, ownerAt_of hl]
  simp only [Bool.true_and, Bool.and_eq_true, Bool.or_eq_true, beq_iff_eq]
theorem inv2_iff {s : Sy} : inv2 s = true ↔ sysLocksB s = true := by
  unfold inv2 sysLocksB
  simp only [Bool.and_eq_true]
  constructor
  · rintro ⟨h1, h2, h3⟩
    refine ⟨h1, h2, ?_⟩
    rw [List.all_eq_true] at h3 ⊢
    intro l hm
    obtain ⟨i, hi⟩ := List.mem_iff_getElem?.1 hm
    have hlt := lt_of_some hi
    have h := h3 i (List.mem_range.2 hlt)
    rw [getD_at hi] at h
    unfold oneCpuB at h
    simp only [Bool.and_eq_true, List.all_eq_true, Bool.or_eq_true, beq_iff_eq] at h
    unfold lockOnB
    simp only [Bool.or_eq_true, beq_iff_eq, Bool.and_eq_true, List.all_eq_true]
    by_cases h0 : l.owner = 0
    · exact .inl h0
    · refine .inr ⟨?_, fun x hx => ?_⟩
      · rcases h.2 with h4 | h4
        · exact absurd h4 h0
        · exact ((sameB_iff hi).1 h4).1
      · obtain ⟨h5, h6⟩ := (sameB_iff hi).1 (h.1 x hx)
        rcases h6 with h6 | h6
        · exact absurd h6 h0
        · unfold onCpu
          simp only [Bool.and_eq_true, beq_iff_eq]
          exact ⟨h5, h6.2.symm⟩
  · rintro ⟨h1, h2, h3⟩
    refine ⟨h1, h2, ?_⟩
    rw [List.all_eq_true] at h3 ⊢
    intro i hm
    have hlt := List.mem_range.1 hm
    obtain ⟨l, hi⟩ := some_in hlt
    rw [getD_at hi]
    have h := h3 l (List.mem_iff_getElem?.2 ⟨i, hi⟩)
    unfold lockOnB at h
    simp only [Bool.or_eq_true, beq_iff_eq, Bool.and_eq_true, List.all_eq_true] at h
    unfold oneCpuB
    simp only [Bool.and_eq_true, List.all_eq_true, Bool.or_eq_true, beq_iff_eq]
    rcases h with h | ⟨h4, h5⟩
    · have hw := (right_iff.1 h2).free i l hi h
      exact ⟨fun x hx => by rw [hw] at hx; simp at hx, .inl h⟩
    · refine ⟨fun x hx => ?_, .inr ((sameB_iff hi).2 ⟨h4, .inr ⟨h4, rfl⟩⟩)⟩
      have h6 := h5 x hx
      unfold onCpu at h6
      simp only [Bool.and_eq_true, beq_iff_eq] at h6
      exact (sameB_iff hi).2 ⟨h6.1, .inr ⟨h4, h6.2.symm⟩⟩
theorem invsB_is (s : Sy) : invsB s = sysB s := by
  rw [Bool.eq_iff_iff, sysB_iff]
  unfold invsB
  rw [inv3_is]
  simp only [Bool.and_eq_true, inv2_iff]
  unfold inv0 inv1 inv4 inv5 inv6
  simp only [Bool.and_eq_true, inB_iff, List.all_eq_true, decide_eq_true_eq, beq_iff_eq, List.mem_range, hasCpuB_is]
  constructor
  · rintro ⟨⟨h1, h2⟩, ⟨h3, h4⟩, h5, h6, h7, ⟨h8, h9⟩, h10, h11, h12⟩
    refine ⟨h1, h2, h4, h5, h6, h9, h10, h11, h12, fun t ht => by have := h3 t ht; omega, fun c hc => ?_⟩
    unfold cpuB
    obtain ⟨x, hx⟩ := some_in (xs := s.floors) (k := c) (by omega)
    rw [getD_at hx]
    simp only [Bool.and_eq_true, inB_iff]
    exact ⟨h8 x (List.mem_iff_getElem?.2 ⟨c, hx⟩), h7 c (by omega)⟩
  · intro h
    refine ⟨⟨h.now, h.cpus⟩, ⟨fun t ht => ?_, h.tasks⟩, h.locks, h.ghosts, fun c hc => ?_, ⟨fun x hx => ?_, h.floors⟩, h.seq, h.missed, h.trace⟩
    · obtain ⟨i, hi⟩ := List.mem_iff_getElem?.1 ht
      have := taskB_cpu (tasksB_task h.tasks hi)
      have := h.on t ht
      omega
    · have := h.cpu c (by omega)
      unfold cpuB at this
      simp only [Bool.and_eq_true] at this
      exact this.2
    · obtain ⟨c, hc⟩ := List.mem_iff_getElem?.1 hx
      have hlt := lt_of_some hc
      have := h.cpu c (by have := h.floors; omega)
      unfold cpuB at this
      rw [getD_at hc] at this
      simp only [Bool.and_eq_true, inB_iff] at this
      exact this.1
end Go.Proofs.YthpdlbcdbncnhaaGreatDoor
