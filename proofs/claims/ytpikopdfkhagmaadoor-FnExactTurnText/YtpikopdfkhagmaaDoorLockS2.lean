/-
  Rows of locks: made anew, marked, and looked at again.
  Locks: contracts of the model's functions that make rows.
  Locks: the model's copy of them.
-/
import Derived.Test.YtpikopdfkhagmaaDoorLockSpec
import Derived.Test.YtpikopdfkhagmaaDoorHeap
namespace Go.Proofs.YtpikopdfkhagmaaDoor
open Go.RowKit
variable {p p' : Bool}
attribute [local go_sem] Keeps.refl Keeps.alloc Keeps.drew Keeps.drewN

/-- What make lays, of elements of whatever size, cell by cell. -/
theorem run_make_zero {P : Program} (t e : TypeId) (z : Value) (size bytes : Nat) (ht : P.underlying t = some (.slice e)) (hinfo : (P.info? e).map (fun i => (i.zero, i.size, i.bytes)) = some (some z, size, bytes))
    (n : Nat) (hbytes : bytes * n ≤ 281474976710656) (h63 : n ≤ 9223372036854775807) :
    ∀ w : World, (Instr.makeSlice t (.int .i64 (n : Int)) (.int .i64 (n : Int))).run P w = .ok (.slice (some ⟨w.heap.size, 0, none⟩) n n) (w.alloc (.cells (madeCells z.cells (n * size)) e)) := by
  obtain ⟨i, hi, hzz⟩ := Option.map_eq_some_iff.1 hinfo
  simp only [Prod.mk.injEq] at hzz
  obtain ⟨hz, hs, hb⟩ := hzz
  intro w
  have hb' : (i.bytes : Int) * (n : Int) ≤ 281474976710656 := by
    have h : ((i.bytes * n : Nat) : Int) ≤ 281474976710656 := by rw [hb]; omega
    rwa [Int.natCast_mul] at h
  have hr := run_make (P := P) w t e i z ht hi hz .i64 .i64 n n (by omega) (Int.le_refl _) hb' (by omega)
  simp only [Int.toNat_natCast, hs] at hr
  exact hr
abbrev Lv.zero : Lv := ⟨0, none, 0, 0⟩
end Go.Proofs.YtpikopdfkhagmaaDoor
namespace Go.Proofs.YtpikopdfkhagmaaDoor
open Go.RowKit
variable {p : Bool}
attribute [local go_sem] Keeps.refl Keeps.alloc Keeps.drew Keeps.drewN

end Go.Proofs.YtpikopdfkhagmaaDoor
namespace Go.Proofs.YtpikopdfkhagmaaDoor
open Go.RowKit
attribute [local go_sem] Keeps.refl Keeps.alloc Keeps.drew Keeps.drewN

end Go.Proofs.YtpikopdfkhagmaaDoor
