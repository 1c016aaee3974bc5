/-
  An element of a row of one's own is written over.
-/
import Derived.Test.YtpikopdfkhagmaaDoorPutC
import Derived.Test.YtpikopdfkhagmaaDoorOwn
namespace Go.Proofs.YtpikopdfkhagmaaDoor
open Go.RowKit

/-- From the place k on stand these values. -/
def setLs (xs : List Value) (k : Nat) : List Value → List Value
  | [] => xs
  | v :: r => setLs (xs.set k v) (k + 1) r
theorem setLs_right (A : List Value) : ∀ (L B : List Value) (k : Nat), setLs (A ++ B) (A.length + k) L = A ++ setLs B k L
  | [], _, _ => rfl
  | v :: r, B, k => by
    rw [setLs, setLs, List.set_append_right _ _ (by omega), Nat.add_assoc, show A.length + k - A.length = k by omega]
    exact setLs_right A r (B.set k v) (k + 1)
theorem setLs_all : ∀ (L A B : List Value), A.length = L.length → setLs (A ++ B) 0 L = L ++ B
  | [], A, B, h => by
    have : A = [] := List.length_eq_zero_iff.1 h
    subst this
    rfl
  | v :: r, [], B, h => by simp at h
  | v :: r, a :: A, B, h => by
    have h1 := setLs_right [v] r (A ++ B) 0
    have h2 := setLs_all r A B (by simpa using h)
    rw [setLs]
    simp only [List.cons_append, List.set_cons_zero, List.nil_append, List.length_singleton, Nat.add_zero, Nat.zero_add] at h1 ⊢
    rw [h1, h2]
theorem setLs_flat {α : Type} {c : α → Array Value} {sz : Nat} (hc : ∀ x, (c x).size = sz) (x : α) : ∀ (xs : List α) (i : Nat), i < xs.length → setLs (flatC c xs) (i * sz) (c x).toList = flatC c (xs.set i x)
  | [], i, h => by simp at h
  | y :: r, 0, _ => by
    have e : flatC c (y :: r) = (c y).toList ++ flatC c r := rfl
    have e' : flatC c ((y :: r).set 0 x) = (c x).toList ++ flatC c r := rfl
    rw [e, e', Nat.zero_mul]
    exact setLs_all _ _ _ (by simp [hc])
  | y :: r, i + 1, h => by
    have e : flatC c (y :: r) = (c y).toList ++ flatC c r := rfl
    have e' : flatC c ((y :: r).set (i + 1) x) = (c y).toList ++ flatC c (r.set i x) := rfl
    have hl : (i + 1) * sz = (c y).toList.length + i * sz := by rw [Array.length_toList, hc, Nat.add_mul, Nat.one_mul, Nat.add_comm]
    rw [e, e', hl, setLs_right, setLs_flat hc x r i (by simpa using h)]
theorem ownsRow_putC {base : Nat} {e : TypeId} {size g n cap : Nat} : ∀ (L : List Value) (w : World) (k : Nat) (xs : List Value), w.ownsRow base e size (.slice (some ⟨g, 0, none⟩) n cap) n xs →
    (putC w g k L).ownsRow base e size (.slice (some ⟨g, 0, none⟩) n cap) n (setLs xs k L)
  | [], _, _, _, h => h
  | v :: r, _, k, _, h => ownsRow_putC r _ (k + 1) _ (h.stored k v).1
/-- The element i is another one now. -/
theorem Own.put {α : Type} {e : TypeId} {sz : Nat} {c : α → Array Value} {w : World} {base b cap : Nat} {xs : List α} (hc : ∀ x, (c x).size = sz) (h : Own e sz c w base (.slice (Option.some ⟨b, 0, none⟩) xs.length cap) xs) {i : Nat} (hi : i < xs.length) (x : α) :
    Own e sz c (putC w b (i * sz) (c x).toList) base (.slice (Option.some ⟨b, 0, none⟩) (xs.set i x).length cap) (xs.set i x) := by
  unfold Own at h ⊢
  rw [← setLs_flat hc x xs i hi, List.length_set]
  exact ownsRow_putC _ _ _ _ h
end Go.Proofs.YtpikopdfkhagmaaDoor
