/-
  Sums of parts of time: contracts of the functions that add parts up, of the program and of the model.
-/
import Derived.Test.YthffapllcbjmlaaGBase1
import Derived.Test.YthffapllcbjmlaaShare
import Derived.Test.YthffapllcbjmlaaPlain1
import Derived.Deep.OwnRows
namespace Go.Proofs.Ythffapllcbjmlaa
open Go.RowKit
attribute [local go_sem] Keeps.refl Keeps.alloc Keeps.drew Keeps.drewN

/-- The parts xs lie in the world, one behind the other, from the address on. -/
def Sh (w : World) (a : Option Addr) (xs : List (Int × Int)) : Prop :=
  xs = [] ∨ ∃ b off, a = some ⟨b, off, none⟩ ∧ ∀ i, i < xs.length → w.cell? ⟨b, off + i * 2, none⟩ = some (.int .i64 (xs.getD i (0, 0)).1) ∧ w.cell? ⟨b, off + i * 2 + 1, none⟩ = some (.int .i64 (xs.getD i (0, 0)).2)
theorem Sh.keeps {w w' : World} {a : Option Addr} {xs : List (Int × Int)} (h : Sh w a xs) (k : Keeps w w') : Sh w' a xs := by
  rcases h with h | ⟨b, off, rfl, h⟩
  · exact .inl h
  · exact .inr ⟨b, off, rfl, fun i hi => ⟨Keeps.has (h i hi).1 _ k, Keeps.has (h i hi).2 _ k⟩⟩
theorem Sh.at {w : World} {a : Option Addr} {xs : List (Int × Int)} (h : Sh w a xs) {i : Nat} (hi : i < xs.length) :
    ∃ b off q p, a = some ⟨b, off, none⟩ ∧ xs.getD i (0, 0) = (q, p) ∧ w.cell? ⟨b, off + i * 2, none⟩ = some (.int .i64 q) ∧ w.cell? ⟨b, off + i * 2 + 1, none⟩ = some (.int .i64 p) := by
  rcases h with rfl | ⟨b, off, rfl, h⟩
  · simp at hi
  · exact ⟨b, off, _, _, rfl, rfl, (h i hi).1, (h i hi).2⟩

/-- All are right. -/
def okAll (xs : List (Int × Int)) : Bool := xs.all fun x => okB x.1 x.2
theorem okAll_snoc (xs : List (Int × Int)) (k : Nat) (h : k < xs.length) : okAll (xs.take (k + 1)) = (okAll (xs.take k) && okB (xs.getD k (0, 0)).1 (xs.getD k (0, 0)).2) := by
  rw [List.take_succ_eq_append_getElem h, okAll, List.all_append]; simp [okAll, h]
theorem okAll_no {xs : List (Int × Int)} {k : Nat} (h : k < xs.length) (hk : okB (xs.getD k (0, 0)).1 (xs.getD k (0, 0)).2 = false) : okAll xs = false := by
  rw [okAll, List.all_eq_false]
  refine ⟨xs[k], List.getElem_mem h, ?_⟩
  have e : xs.getD k (0, 0) = xs[k] := by simp [h]
  rw [e] at hk; simp [hk]
def canSumB (xs : List (Int × Int)) : Bool := decide (xs.length ≤ 7) && okAll xs

set_option maxRecDepth 100000 in
theorem l1Gcd_int (a b : Int) (w : World) (ha : 0 ≤ a) (ha' : a ≤ 9223372036854775807) (hb : 0 ≤ b) (hb' : b ≤ 9223372036854775807) :
    Calls Try.prog 78 #[.int .i64 a, .int .i64 b] w fun e w' => e = .returned (.int .i64 (Int.gcd a b)) ∧ Quiet w w' := by
  obtain ⟨x, rfl⟩ := Int.eq_ofNat_of_zero_le ha
  obtain ⟨y, rfl⟩ := Int.eq_ofNat_of_zero_le hb
  exact l1Gcd_any x y w (by omega) (by omega)
open Plain

theorem okAll_at {xs : List (Int × Int)} (h : okAll xs = true) {k : Nat} (hk : k < xs.length) {q p : Int} (e : xs.getD k (0, 0) = (q, p)) : (1 ≤ p ∧ p ≤ 40) ∧ 1 ≤ q ∧ q ≤ p := by
  have e' : xs.getD k (0, 0) = xs[k] := by simp [hk]
  have := List.all_eq_true.1 h xs[k] (List.getElem_mem hk)
  rw [← e', e] at this
  exact okB_iff.1 this

/-- A block of two cells that may be written. -/
def SumTwo (w : World) (b : Nat) (v0 v1 : Value) : Prop := w.cell? ⟨b, 0, none⟩ = some v0 ∧ w.cell? ⟨b, 1, none⟩ = some v1 ∧ w.frozen? ⟨b, 0, none⟩ = false ∧ w.frozen? ⟨b, 1, none⟩ = false

theorem SumTwo.rules {w : World} {b : Nat} {v0 v1 : Value} (h : SumTwo w b v0 v1) : (∀ w', Keeps w w' → w'.cell? ⟨b, 0, none⟩ = some v0) ∧ (∀ w', Keeps w w' → w'.cell? ⟨b, 1, none⟩ = some v1) ∧ (∀ w', Keeps w w' → w'.frozen? ⟨b, 0, none⟩ = false) ∧ ∀ w', Keeps w w' → w'.frozen? ⟨b, 1, none⟩ = false := by
  obtain ⟨h1, h2, h3, h4⟩ := h
  have hb : b < w.heap.size := World.block_lt_of_cell? w _ h1
  exact ⟨Keeps.has h1, Keeps.has h2, fun w' k => (k.frozens b 0 hb).trans h3, fun w' k => (k.frozens b 1 hb).trans h4⟩
theorem SumTwo.keeps {w w' : World} {b : Nat} {v0 v1 : Value} (h : SumTwo w b v0 v1) (k : Keeps w w') : SumTwo w' b v0 v1 :=
  ⟨h.rules.1 _ k, h.rules.2.1 _ k, h.rules.2.2.1 _ k, h.rules.2.2.2 _ k⟩
theorem SumTwo.set {w : World} {b : Nat} {v0 v1 : Value} (h : SumTwo w b v0 v1) (x y : Value) : SumTwo ((w.setCell ⟨b, 0, none⟩ x).setCell ⟨b, 1, none⟩ y) b x y := by
  obtain ⟨h1, h2, h3, h4⟩ := h
  have e2 : (w.setCell ⟨b, 0, none⟩ x).cell? ⟨b, 1, none⟩ = some v1 := by rw [setCell_other (by omega), h2]
  exact ⟨by rw [setCell_other (by omega), setCell_same h1], setCell_same e2 _, by simp [h3], by simp [h4]⟩
theorem SumTwo.other {w : World} {b c : Nat} {v0 v1 : Value} (h : SumTwo w b v0 v1) (hc : c ≠ b) (x y : Value) : SumTwo ((w.setCell ⟨c, 0, none⟩ x).setCell ⟨c, 1, none⟩ y) b v0 v1 := by
  obtain ⟨h1, h2, h3, h4⟩ := h
  exact ⟨by rw [setCell_other (by omega), setCell_other (by omega), h1], by rw [setCell_other (by omega), setCell_other (by omega), h2], by simp [h3], by simp [h4]⟩
theorem SumTwo.lt {w : World} {b : Nat} {v0 v1 : Value} (h : SumTwo w b v0 v1) : b < w.heap.size := World.block_lt_of_cell? w _ h.1

/-- What SumOf answers. -/
def sumOfV (xs : List (Int × Int)) : Int × Int × Bool := if canSumB xs then ((sumI xs).1, (sumI xs).2, true) else (0, 0, false)
theorem sumOfV_no {xs : List (Int × Int)} (h : canSumB xs = false) : sumOfV xs = (0, 0, false) := by simp [sumOfV, h]
theorem sumOfV_yes {xs : List (Int × Int)} (h : canSumB xs = true) : sumOfV xs = ((sumI xs).1, (sumI xs).2, true) := by simp [sumOfV, h]
theorem canSumB_iff {xs : List (Int × Int)} : canSumB xs = true ↔ xs.length ≤ 7 ∧ okAll xs = true := by simp [canSumB]

end Go.Proofs.Ythffapllcbjmlaa
