/-
  What is drawn: contracts of the model's cursor over a text's bytes. Which numbers are drawn is not said: only how far they go, and that nothing but the cursor turns.
-/
import Derived.Test.YtpikopdfkhagmaaDoorBut
namespace Go.Proofs.YtpikopdfkhagmaaDoor
open Go.RowKit

/-- Bytes that lie below block g. -/
def Bytes (g : Nat) (w : World) (a : Option Addr) (n : Nat) : Prop :=
  n = 0 ∨ ∃ b off, a = some ⟨b, off, none⟩ ∧ b < g ∧ ∀ j, j < n → ∃ z : Int, 0 ≤ z ∧ z ≤ 255 ∧ w.cell? ⟨b, off + j, none⟩ = some (.int .u8 z)
theorem Bytes.but {g : Nat} {w w' : World} {a : Option Addr} {n : Nat} (h : Bytes g w a n) (k : KeepsBut g w w') : Bytes g w' a n := by
  rcases h with h | ⟨b, off, rfl, hg, h⟩
  · exact .inl h
  · exact .inr ⟨b, off, rfl, hg, fun j hj => by obtain ⟨z, h0, h1, hc⟩ := h j hj; exact ⟨z, h0, h1, KeepsBut.has (by omega) hc _ k⟩⟩

/-- The cursor lies in block g. -/
def Cur (w : World) (g : Nat) : Prop :=
  ∃ (a : Option Addr) (n cap i : Nat) (h : Int), w.cell? ⟨g, 0, none⟩ = some (.slice a n cap) ∧ w.cell? ⟨g, 1, none⟩ = some (.int .i64 i) ∧ w.cell? ⟨g, 2, none⟩ = some (.int .i64 h) ∧
    w.frozen? ⟨g, 1, none⟩ = false ∧ w.frozen? ⟨g, 2, none⟩ = false ∧ i ≤ n ∧ n ≤ 1048576 ∧ Bytes g w a n

theorem Bytes.drewN {g : Nat} {w : World} {a : Option Addr} {n : Nat} (h : Bytes g w a n) (m : Nat) : Bytes g (w.drewN m) a n := h.but ((KeepsBut.refl g w).drewN m)
theorem Cur.drewN {w : World} {g : Nat} (h : Cur w g) (m : Nat) : Cur (w.drewN m) g := by
  obtain ⟨a, n, cap, i, h, c0, c1, c2, f1, f2, hi, hn, hb⟩ := h
  exact ⟨a, n, cap, i, h, c0, c1, c2, f1, f2, hi, hn, hb.drewN m⟩
theorem Cur.lt {w : World} {g : Nat} (h : Cur w g) : g < w.heap.size := by
  obtain ⟨_, _, _, _, _, c0, _⟩ := h
  exact World.block_lt_of_cell? w _ c0
theorem Cur.keeps {w w' : World} {g : Nat} (h : Cur w g) (k : Keeps w w') : Cur w' g := by
  have hl := h.lt
  obtain ⟨a, n, cap, i, h, c0, c1, c2, f1, f2, hi, hn, hb⟩ := h
  exact ⟨a, n, cap, i, h, Keeps.has c0 _ k, Keeps.has c1 _ k, Keeps.has c2 _ k, (k.frozens g 1 hl).trans f1, (k.frozens g 2 hl).trans f2, hi, hn, hb.but (.of k)⟩

end Go.Proofs.YtpikopdfkhagmaaDoor
