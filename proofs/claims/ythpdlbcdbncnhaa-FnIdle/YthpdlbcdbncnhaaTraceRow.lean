/-
  A row of turns of one's own.
-/
import Derived.Test.YthpdlbcdbncnhaaGSys1
namespace Go.Proofs.Ythpdlbcdbncnhaa
open Go.RowKit

theorem rowLies {w : World} {base : Nat} {a : Option Addr} {n cap : Nat} {xs : List Tn} (h : Own 34 3 tnc w base (.slice a n cap) xs) : Rs w a xs := (Own.row (x := ⟨a, n, cap⟩) h tnc_size).2.1
theorem rowCap {w : World} {base : Nat} {a : Option Addr} {n cap : Nat} {xs : List Tn} (h : Own 34 3 tnc w base (.slice a n cap) xs) : n ≤ cap := by
  rcases (Own.row (x := ⟨a, n, cap⟩) h tnc_size).2.2.1 with ⟨e1, e2, e3⟩ | ⟨b, off, e1, hb, hle⟩
  · simp only at e2 e3
    omega
  · exact hle
end Go.Proofs.Ythpdlbcdbncnhaa
