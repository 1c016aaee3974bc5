/-
  A list of parts that comes in as an argument: what its reading says of its cells.
-/
import Derived.Test.YtdfhoflmjcdkkaaFrame
import Derived.Test.YtdfhoflmjcdkkaaSum
import Derived.Deep.SlicePairs
namespace Go.Proofs.Ytdfhoflmjcdkkaa
open Go.ChangeShapes Go.WideShapes Go.ChangeAt Go.RowKit

theorem addr_add (b off n : Nat) : (⟨b, off, none⟩ : Addr).add n = ⟨b, off + n, none⟩ := by
  unfold Addr.add
  by_cases h : n = 0 <;> simp [h]

theorem open_shares {H : Type} {enc : TypeId × Value → H} {W : World} {a : Option Addr} {len cap : Nat} {d : DataW H} {p : List MemPlace}
    (h : DataW.Trod enc Try.prog W 0 (fun _ => true) true 44 (.slice a len cap) d p) : ∃ xs : List (Int × Int), xs.length = len ∧ xs.length ≤ maxLen ∧ Sh W a xs := by
  obtain ⟨fuel, hf⟩ := h
  rcases Go.Deep.open_slice_pairs Try.underlying44 Try.underlying39 (by kernel_rfl) rfl rfl (by kernel_rfl) (by kernel_rfl) hf with ⟨hcs, _⟩ | ⟨x, l, c, m, n, V0, V1, D0, D1, P0, P1, hcs, _, hl, hm, hmm, _, hc⟩
  · simp [Value.cells] at hcs
    obtain ⟨rfl, rfl, rfl⟩ := hcs
    exact ⟨[], rfl, by simp, .inl rfl⟩
  · simp [Value.cells] at hcs
    obtain ⟨rfl, rfl, rfl⟩ := hcs
    have hml : len ≤ m := by rw [hmm]; simp; omega
    refine ⟨(List.range len).map fun i => (intOf (V0 i), intOf (V1 i)), by simp, by simp; omega, ?_⟩
    obtain ⟨b, off, spot⟩ := x
    by_cases h0 : len = 0
    · subst h0; exact .inl rfl
    · have hs : spot = none := by
        have := World.cell?_spot (hc 0 (by omega)).1
        simpa [Addr.add] using this
      subst hs
      refine .inr ⟨b, off, rfl, fun i hi => ?_⟩
      have hi' : i < len := by simpa using hi
      obtain ⟨h1, h2, h3, h4⟩ := hc i (by omega)
      obtain ⟨x0, e0, _, _⟩ := DataW.trod_int Try.underlying3 h3
      obtain ⟨x1, e1, _, _⟩ := DataW.trod_int Try.underlying3 h4
      simp at e0 e1
      have g1 : W.cell? ⟨b, off + i * 2, none⟩ = some (V0 i) := by rwa [addr_add] at h1
      have g2 : W.cell? ⟨b, off + i * 2 + 1, none⟩ = some (V1 i) := by rw [addr_add] at h2; simpa [Nat.add_assoc] using h2
      rw [g1, g2, e0, e1]
      simp [hi', e0, e1, intOf]
end Go.Proofs.Ytdfhoflmjcdkkaa
