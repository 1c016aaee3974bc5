/-
  A struct is written over a block, cell by cell.
-/
import Derived.Test.YtpikopdfkhagmaaDoorBlk
namespace Go.Proofs.YtpikopdfkhagmaaDoor
open Go.RowKit

/-- From the place k of the block b on stand these values. -/
def putC (w : World) (b k : Nat) : List Value → World
  | [] => w
  | v :: r => putC (w.setCell ⟨b, k, none⟩ v) b (k + 1) r
/-- The cells behind it. -/
def setL (C : Array Value) (k : Nat) : List Value → Array Value
  | [] => C
  | v :: r => setL (C.setIfInBounds k v) (k + 1) r
theorem setL_at : ∀ (L : List Value) (C : Array Value) (k i : Nat), k + L.length ≤ C.size → (setL C k L)[i]? = if k ≤ i ∧ i < k + L.length then L[i - k]? else C[i]?
  | [], C, k, i, _ => by rw [if_neg (by simp)]; rfl
  | v :: r, C, k, i, h => by
    simp only [List.length_cons] at h
    rw [setL, setL_at r _ _ _ (by simp; omega)]
    by_cases h1 : k + 1 ≤ i ∧ i < k + 1 + r.length
    · rw [if_pos h1, if_pos (by simp only [List.length_cons]; omega)]
      obtain ⟨j, hj⟩ : ∃ j, i - k = j + 1 := ⟨i - k - 1, by omega⟩
      rw [hj, List.getElem?_cons_succ]
      congr 1
      omega
    · rw [if_neg h1]
      by_cases e : k = i
      · subst e
        rw [if_pos (by simp only [List.length_cons]; omega), Array.getElem?_setIfInBounds_self_of_lt (by omega)]
        simp
      · rw [if_neg (by simp only [List.length_cons]; omega), Array.getElem?_setIfInBounds_ne e]
theorem setL_all {L : List Value} {C : Array Value} (h : L.length = C.size) : setL C 0 L = L.toArray := by
  apply Array.ext_getElem?
  intro i
  rw [setL_at _ _ _ _ (by omega)]
  by_cases hi : i < L.length
  · rw [if_pos (by omega)]; simp
  · rw [if_neg (by omega), Array.getElem?_eq_none (by omega), Array.getElem?_eq_none (by simp; omega)]
theorem Blk.putL {b : Nat} : ∀ (L : List Value) {C : Array Value} {w : World} (k : Nat), Blk w b C → k + L.length ≤ C.size → Blk (putC w b k L) b (setL C k L)
  | [], _, _, _, h, _ => h
  | v :: r, C, w, k, h, hk => by
    simp only [List.length_cons] at hk
    exact Blk.putL r (k + 1) (h.set k (by omega) v) (by simp; omega)
/-- The whole block is written. -/
theorem Blk.putC {w : World} {b : Nat} {C : Array Value} (h : Blk w b C) (L : List Value) (hl : L.length = C.size) : Blk (putC w b 0 L) b L.toArray := by
  rw [← setL_all hl]
  exact Blk.putL L 0 h (by omega)
theorem Blk.farC {b c : Nat} {C : Array Value} (hc : c ≠ b) : ∀ (L : List Value) {w : World} (k : Nat), Blk w b C → Blk (Go.Proofs.YtpikopdfkhagmaaDoor.putC w c k L) b C
  | [], _, _, h => h
  | v :: r, _, k, h => Blk.farC hc r (k + 1) (h.far hc v)
theorem Keeps.putC {a : World} {b : Nat} (hp : a.heap.size ≤ b) : ∀ (L : List Value) {w : World} (k : Nat), Keeps a w → Keeps a (Go.Proofs.YtpikopdfkhagmaaDoor.putC w b k L)
  | [], _, _, h => h
  | v :: r, _, k, h => Keeps.putC hp r (k + 1) (h.setCell hp v)
end Go.Proofs.YtpikopdfkhagmaaDoor
