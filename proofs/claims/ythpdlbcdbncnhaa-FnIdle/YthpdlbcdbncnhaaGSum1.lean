/-
  The greatest common divisor: contracts of the program's and of the model's functions over it, each for every argument that its callers hand it.
  Parts of time: contracts of the functions that say which part is right and which of two is less.
  Sums of parts without loss: the plain arithmetic. No Go in sight.
  Sums of parts of time: contracts of the functions that add parts up, of the program and of the model.
  Sums of parts of time: contracts of the model's SumOf and Fits.
  Drawn parts of time: contracts of the model's draws of chapter 1.
-/
import Derived.Test.YthpdlbcdbncnhaaGBase1
import Derived.Test.YthpdlbcdbncnhaaGTask1
import Derived.Laws.ResultCell
import Derived.Deep.RegionHeld3
import Derived.Test.YthpdlbcdbncnhaaRows
import Derived.Deep.OwnRows
import Derived.Deep.AppendLies
namespace Go.Proofs.Ythpdlbcdbncnhaa
open Go.RowKit

theorem tmod_nat (x y : Nat) : (x : Int).tmod (y : Int) = ((x % y : Nat) : Int) := by
  rw [Int.tmod_eq_emod_of_nonneg (by omega)]; rfl

theorem gcd_step (x y : Nat) : Nat.gcd y (x % y) = Nat.gcd x y := by
  rw [Nat.gcd_comm x y, Nat.gcd_rec y x, Nat.gcd_comm]

set_option maxRecDepth 100000 in
set_option maxHeartbeats 400000 in
theorem l1Gcd_any (a b : Nat) (w : World) (ha : a ≤ 9223372036854775807) (hb : b ≤ 9223372036854775807) :
    Calls Try.prog 77 #[.int .i64 a, .int .i64 b] w fun e w' => e = .returned (.int .i64 (Nat.gcd a b)) ∧ Quiet w w' := by
  go_enter Try.func77, Try.ntmps77
  go_wp2
  go_loopw [0, 1] (fun s t wr => ∃ x y : Nat, x ≤ 9223372036854775807 ∧ y ≤ 9223372036854775807 ∧ s = .int .i64 x ∧ t = .int .i64 y ∧ Hid (Nat.gcd x y = Nat.gcd a b) ∧ Quiet w wr) (fun _ t _ => (intOf t).toNat)
  case atStart => exact ⟨a, b, ha, hb, rfl, rfl, rfl, Quiet.refl _⟩
  case round =>
    obtain ⟨x, y, hx, hy, rfl, rfl, hg, hq⟩ := hrel
    by_cases h0 : 0 < y
    · have h1 : x % y < y := Nat.mod_lt _ h0
      have hn : ((y : Int) != 0) = true := by rw [bne_iff_ne]; omega
      go_wp2
      go_quiet (fail)
      go_wp2
      go_roundw
      case rel => exact ⟨y, x % y, hy, by omega, rfl, rfl, (gcd_step x y).trans hg.out, hq.drewN _⟩
      case measure => simp only [intOf]; omega
    · have h2 : y = 0 := by omega
      subst h2
      go_wp2
      go_ret
      exact ⟨by rw [← hg.out]; simp, hq⟩

set_option maxRecDepth 100000 in
theorem l1Max_anyG (a b : Int) (w : World) :
    Calls Try.prog 35 #[.int .i64 a, .int .i64 b] w fun e w' => e = .returned (.int .i64 (max a b)) ∧ w' = w := by
  by_cases h0 : b < a
  · have Hr : Hid (max a b = a) := by show _ = _; omega
    go_enter Try.func35, Try.ntmps35
    go_wp2
    go_ret
    exact ⟨by rw [Hr.out]; rfl, rfl⟩
  · have Hr : Hid (max a b = b) := by show _ = _; omega
    go_enter Try.func35, Try.ntmps35
    go_wp2
    go_ret
    exact ⟨by rw [Hr.out]; rfl, rfl⟩

/-- What Gcd answers. -/
def gcdI (a b : Int) : Int := if inB a (-1000000) 1000000 && inB b (-1000000) 1000000 then (Nat.gcd a.natAbs b.natAbs : Int) else 0

theorem gcdI_in {a b : Int} (ha : inB a (-1000000) 1000000 = true) (hb : inB b (-1000000) 1000000 = true) : gcdI a b = (Nat.gcd a.natAbs b.natAbs : Int) := by simp [gcdI, ha, hb]
theorem gcdI_out1 {a b : Int} (ha : inB a (-1000000) 1000000 = false) : gcdI a b = 0 := by simp [gcdI, ha]
theorem gcdI_out2 {a b : Int} (hb : inB b (-1000000) 1000000 = false) : gcdI a b = 0 := by simp [gcdI, hb]

theorem max_neg' (a : Int) : max a (-a) = (a.natAbs : Int) := by omega

end Go.Proofs.Ythpdlbcdbncnhaa
namespace Go.Proofs.Ythpdlbcdbncnhaa
open Go.RowKit

/-- One part is less than another one. -/
def lessB (q p q' p' : Int) : Bool := okB q p && okB q' p' && decide (q * p' < q' * p)

theorem mul_bdS {a b : Int} (ha : 1 ≤ a) (ha' : a ≤ 40) (hb : 1 ≤ b) (hb' : b ≤ 40) : 1 ≤ a * b ∧ a * b ≤ 1600 := by
  obtain ⟨x, rfl⟩ := Int.eq_ofNat_of_zero_le (show 0 ≤ a by omega)
  obtain ⟨y, rfl⟩ := Int.eq_ofNat_of_zero_le (show 0 ≤ b by omega)
  have h1 : 1 * 1 ≤ x * y := Nat.mul_le_mul (by omega) (by omega)
  have h2 : x * y ≤ 40 * 40 := Nat.mul_le_mul (by omega) (by omega)
  have h3 : ((x * y : Nat) : Int) = (x : Int) * (y : Int) := Int.natCast_mul x y
  omega

end Go.Proofs.Ythpdlbcdbncnhaa
namespace Go.Proofs.Ythpdlbcdbncnhaa.Plain

/-- One part more: the sum in lowest terms. -/
def stepI (s x : Int × Int) : Int × Int :=
  ((s.1 * x.2 + x.1 * s.2) / (Int.gcd (s.1 * x.2 + x.1 * s.2) (s.2 * x.2) : Int), (s.2 * x.2) / (Int.gcd (s.1 * x.2 + x.1 * s.2) (s.2 * x.2) : Int))
def sumI (xs : List (Int × Int)) : Int × Int := xs.foldl stepI (0, 1)
theorem sumI_snoc (xs : List (Int × Int)) (x : Int × Int) : sumI (xs ++ [x]) = stepI (sumI xs) x := by simp [sumI]
theorem sumI_take (xs : List (Int × Int)) (k : Nat) (h : k < xs.length) : sumI (xs.take (k + 1)) = stepI (sumI (xs.take k)) (xs.getD k (0, 0)) := by
  rw [List.take_succ_eq_append_getElem h, sumI_snoc]; simp [h]

/-- What a sum of k parts keeps to. -/
def Inv (k : Nat) (s : Int × Int) : Prop := 0 ≤ s.1 ∧ 1 ≤ s.2 ∧ s.2 ≤ ((40 ^ k : Nat) : Int) ∧ s.1 ≤ (k : Int) * s.2

theorem inv_zero : Inv 0 (0, 1) := by simp [Inv]

theorem div_parts (n d g : Int) (_hg : 1 ≤ g) (hn : g ∣ n) (hd : g ∣ d) : n = g * (n / g) ∧ d = g * (d / g) := ⟨(Int.mul_ediv_cancel' hn).symm, (Int.mul_ediv_cancel' hd).symm⟩

theorem mul_le_mono {a b c : Int} (h : a ≤ b) (hc : 0 ≤ c) : a * c ≤ b * c := Int.mul_le_mul_of_nonneg_right h hc
theorem mul_le_mono' {a b c : Int} (h : a ≤ b) (hc : 0 ≤ c) : c * a ≤ c * b := Int.mul_le_mul_of_nonneg_left h hc

theorem step_inv {k : Nat} {n d q p : Int} (h : Inv k (n, d)) (hp1 : 1 ≤ p) (hp2 : p ≤ 40) (hq1 : 1 ≤ q) (hq2 : q ≤ p) :
    1 ≤ (Int.gcd (n * p + q * d) (d * p) : Int) ∧ (Int.gcd (n * p + q * d) (d * p) : Int) ≤ d * p ∧ 0 ≤ n * p ∧ 0 ≤ q * d ∧ 1 ≤ d * p ∧ n * p + q * d ≤ (k + 1 : Int) * (d * p) ∧ n * p ≤ (k : Int) * (d * p) ∧ q * d ≤ d * p ∧ d * p ≤ ((40 ^ (k + 1) : Nat) : Int) ∧ Inv (k + 1) (stepI (n, d) (q, p)) := by
  obtain ⟨h1, h2, h3, h4⟩ := h
  simp only at h1 h2 h3 h4
  have a1 : 0 ≤ n * p := Int.mul_nonneg h1 (by omega)
  have a2 : 0 ≤ q * d := Int.mul_nonneg (by omega) (by omega)
  have a3 : 1 * 1 ≤ d * p := Int.mul_le_mul h2 hp1 (by omega) (by omega)
  have a4 : n * p ≤ ((k : Int) * d) * p := mul_le_mono h4 (by omega)
  have a5 : q * d ≤ p * d := mul_le_mono hq2 (by omega)
  have a6 : ((k : Int) * d) * p = (k : Int) * (d * p) := Int.mul_assoc _ _ _
  have a7 : p * d = d * p := Int.mul_comm _ _
  have a8 : (k + 1 : Int) * (d * p) = (k : Int) * (d * p) + d * p := by rw [Int.add_mul, Int.one_mul]
  have a9 : d * p ≤ ((40 ^ k : Nat) : Int) * p := mul_le_mono h3 (by omega)
  have a10 : ((40 ^ k : Nat) : Int) * p ≤ ((40 ^ k : Nat) : Int) * 40 := mul_le_mono' hp2 (by omega)
  have a11 : ((40 ^ (k + 1) : Nat) : Int) = ((40 ^ k : Nat) : Int) * 40 := by rw [Nat.pow_succ]; exact Int.natCast_mul _ _
  have g0 : 0 < Int.gcd (n * p + q * d) (d * p) := Int.gcd_pos_of_ne_zero_right _ (by omega)
  have gd := Int.gcd_dvd_right (n * p + q * d) (d * p)
  have gn := Int.gcd_dvd_left (n * p + q * d) (d * p)
  have gle := Int.le_of_dvd (by omega) gd
  unfold Inv stepI
  simp only
  generalize (Int.gcd (n * p + q * d) (d * p) : Nat) = g at *
  obtain ⟨e1, e2⟩ := div_parts _ _ (g : Int) (by omega) gn gd
  have f1 : 0 ≤ (n * p + q * d) / (g : Int) := Int.ediv_nonneg (by omega) (by omega)
  have f2 : 0 < (d * p) / (g : Int) := Int.ediv_pos_of_pos_of_dvd (by omega) (by omega) gd
  have f3 : (d * p) / (g : Int) ≤ d * p := Int.ediv_le_self _ (by omega)
  generalize (n * p + q * d) / (g : Int) = n' at *
  generalize (d * p) / (g : Int) = d' at *
  refine ⟨by omega, by omega, a1, a2, by omega, by omega, by omega, by omega, by omega, f1, by omega, by omega, ?_⟩
  have c1 : n * p + q * d ≤ (k + 1 : Int) * (d * p) := by omega
  rw [e1, e2] at c1
  have c2 : (k + 1 : Int) * ((g : Int) * d') = (g : Int) * ((k + 1 : Int) * d') := Int.mul_left_comm _ _ _
  rw [c2] at c1
  have := Int.le_of_mul_le_mul_left c1 (by omega)
  simpa using this

theorem pow40 {k : Nat} (h : k ≤ 7) : ((40 ^ k : Nat) : Int) ≤ 163840000000 := by
  have : 40 ^ k ≤ 40 ^ 7 := Nat.pow_le_pow_right (by omega) h
  omega

/-- A sum of at most seven parts fits. -/
theorem inv_bd {k : Nat} {n d : Int} (h : Inv k (n, d)) (hk : k ≤ 7) : 0 ≤ n ∧ n ≤ 1146880000000 ∧ 1 ≤ d ∧ d ≤ 163840000000 := by
  obtain ⟨h1, h2, h3, h4⟩ := h
  have := pow40 hk
  simp only at h1 h2 h3 h4
  have : (k : Int) * d ≤ 7 * d := mul_le_mono (by omega) (by omega)
  omega

theorem step_bd {k : Nat} {n d q p : Int} (h : Inv k (n, d)) (hk : k < 7) (hp1 : 1 ≤ p) (hp2 : p ≤ 40) (hq1 : 1 ≤ q) (hq2 : q ≤ p) :
    0 ≤ n * p ∧ n * p ≤ 1146880000000 ∧ 0 ≤ q * d ∧ q * d ≤ 163840000000 ∧ 1 ≤ d * p ∧ d * p ≤ 163840000000 ∧ 1 ≤ (Int.gcd (n * p + q * d) (d * p) : Int) ∧ (Int.gcd (n * p + q * d) (d * p) : Int) ≤ 163840000000 := by
  obtain ⟨a1, a2, a3, a4, a5, a6, a7, a8, a9, _⟩ := step_inv h hp1 hp2 hq1 hq2
  have := pow40 (k := k + 1) (by omega)
  have : (k : Int) * (d * p) ≤ 7 * (d * p) := mul_le_mono (by omega) (by omega)
  omega
theorem step_next {k : Nat} {n d q p : Int} (h : Inv k (n, d)) (hp1 : 1 ≤ p) (hp2 : p ≤ 40) (hq1 : 1 ≤ q) (hq2 : q ≤ p) : Inv (k + 1) (stepI (n, d) (q, p)) := (step_inv h hp1 hp2 hq1 hq2).2.2.2.2.2.2.2.2.2
end Go.Proofs.Ythpdlbcdbncnhaa.Plain
namespace Go.Proofs.Ythpdlbcdbncnhaa
open Go.RowKit
attribute [local go_sem] Keeps.refl Keeps.alloc Keeps.drew Keeps.drewN

/-- The parts xs lie in the world, one behind the other, from the address on. -/
def Sh (w : World) (a : Option Addr) (xs : List (Int × Int)) : Prop :=
  xs = [] ∨ ∃ b off, a = some ⟨b, off, none⟩ ∧ ∀ i, i < xs.length → w.cell? ⟨b, off + i * 2, none⟩ = some (.int .i64 (xs.getD i (0, 0)).1) ∧ w.cell? ⟨b, off + i * 2 + 1, none⟩ = some (.int .i64 (xs.getD i (0, 0)).2)
theorem Sh.keeps {w w' : World} {a : Option Addr} {xs : List (Int × Int)} (h : Sh w a xs) (k : Keeps w w') : Sh w' a xs := by
  rcases h with h | ⟨b, off, rfl, h⟩
  · exact .inl h
  · exact .inr ⟨b, off, rfl, fun i hi => ⟨Keeps.has (h i hi).1 _ k, Keeps.has (h i hi).2 _ k⟩⟩
theorem Sh.at {w : World} {a : Option Addr} {xs : List (Int × Int)} (h : Sh w a xs) {i : Nat} (hi : i < xs.length) :
    ∃ b off q p, a = some ⟨b, off, none⟩ ∧ xs.getD i (0, 0) = (q, p) ∧ w.cell? ⟨b, off + i * 2, none⟩ = some (.int .i64 q) ∧ w.cell? ⟨b, off + i * 2 + 1, none⟩ = some (.int .i64 p) := by
  rcases h with rfl | ⟨b, off, rfl, h⟩
  · simp at hi
  · exact ⟨b, off, _, _, rfl, rfl, (h i hi).1, (h i hi).2⟩

/-- All are right. -/
def okAll (xs : List (Int × Int)) : Bool := xs.all fun x => okB x.1 x.2
theorem okAll_snoc (xs : List (Int × Int)) (k : Nat) (h : k < xs.length) : okAll (xs.take (k + 1)) = (okAll (xs.take k) && okB (xs.getD k (0, 0)).1 (xs.getD k (0, 0)).2) := by
  rw [List.take_succ_eq_append_getElem h, okAll, List.all_append]; simp [okAll, h]
theorem okAll_no {xs : List (Int × Int)} {k : Nat} (h : k < xs.length) (hk : okB (xs.getD k (0, 0)).1 (xs.getD k (0, 0)).2 = false) : okAll xs = false := by
  rw [okAll, List.all_eq_false]
  refine ⟨xs[k], List.getElem_mem h, ?_⟩
  have e : xs.getD k (0, 0) = xs[k] := by simp [h]
  rw [e] at hk; simp [hk]
def canSumB (xs : List (Int × Int)) : Bool := decide (xs.length ≤ 7) && okAll xs

set_option maxRecDepth 100000 in
theorem l1Gcd_int (a b : Int) (w : World) (ha : 0 ≤ a) (ha' : a ≤ 9223372036854775807) (hb : 0 ≤ b) (hb' : b ≤ 9223372036854775807) :
    Calls Try.prog 77 #[.int .i64 a, .int .i64 b] w fun e w' => e = .returned (.int .i64 (Int.gcd a b)) ∧ Quiet w w' := by
  obtain ⟨x, rfl⟩ := Int.eq_ofNat_of_zero_le ha
  obtain ⟨y, rfl⟩ := Int.eq_ofNat_of_zero_le hb
  exact l1Gcd_any x y w (by omega) (by omega)
open Plain

theorem okAll_at {xs : List (Int × Int)} (h : okAll xs = true) {k : Nat} (hk : k < xs.length) {q p : Int} (e : xs.getD k (0, 0) = (q, p)) : (1 ≤ p ∧ p ≤ 40) ∧ 1 ≤ q ∧ q ≤ p := by
  have e' : xs.getD k (0, 0) = xs[k] := by simp [hk]
  have := List.all_eq_true.1 h xs[k] (List.getElem_mem hk)
  rw [← e', e] at this
  exact okB_iff.1 this

/-- A block of two cells that may be written. -/
def SumTwo (w : World) (b : Nat) (v0 v1 : Value) : Prop := w.cell? ⟨b, 0, none⟩ = some v0 ∧ w.cell? ⟨b, 1, none⟩ = some v1 ∧ w.frozen? ⟨b, 0, none⟩ = false ∧ w.frozen? ⟨b, 1, none⟩ = false

theorem SumTwo.rules {w : World} {b : Nat} {v0 v1 : Value} (h : SumTwo w b v0 v1) : (∀ w', Keeps w w' → w'.cell? ⟨b, 0, none⟩ = some v0) ∧ (∀ w', Keeps w w' → w'.cell? ⟨b, 1, none⟩ = some v1) ∧ (∀ w', Keeps w w' → w'.frozen? ⟨b, 0, none⟩ = false) ∧ ∀ w', Keeps w w' → w'.frozen? ⟨b, 1, none⟩ = false := by
  obtain ⟨h1, h2, h3, h4⟩ := h
  have hb : b < w.heap.size := World.block_lt_of_cell? w _ h1
  exact ⟨Keeps.has h1, Keeps.has h2, fun w' k => (k.frozens b 0 hb).trans h3, fun w' k => (k.frozens b 1 hb).trans h4⟩
theorem SumTwo.keeps {w w' : World} {b : Nat} {v0 v1 : Value} (h : SumTwo w b v0 v1) (k : Keeps w w') : SumTwo w' b v0 v1 :=
  ⟨h.rules.1 _ k, h.rules.2.1 _ k, h.rules.2.2.1 _ k, h.rules.2.2.2 _ k⟩
theorem SumTwo.set {w : World} {b : Nat} {v0 v1 : Value} (h : SumTwo w b v0 v1) (x y : Value) : SumTwo ((w.setCell ⟨b, 0, none⟩ x).setCell ⟨b, 1, none⟩ y) b x y := by
  obtain ⟨h1, h2, h3, h4⟩ := h
  have e2 : (w.setCell ⟨b, 0, none⟩ x).cell? ⟨b, 1, none⟩ = some v1 := by rw [setCell_other (by omega), h2]
  exact ⟨by rw [setCell_other (by omega), setCell_same h1], setCell_same e2 _, by simp [h3], by simp [h4]⟩
theorem SumTwo.other {w : World} {b c : Nat} {v0 v1 : Value} (h : SumTwo w b v0 v1) (hc : c ≠ b) (x y : Value) : SumTwo ((w.setCell ⟨c, 0, none⟩ x).setCell ⟨c, 1, none⟩ y) b v0 v1 := by
  obtain ⟨h1, h2, h3, h4⟩ := h
  exact ⟨by rw [setCell_other (by omega), setCell_other (by omega), h1], by rw [setCell_other (by omega), setCell_other (by omega), h2], by simp [h3], by simp [h4]⟩
theorem SumTwo.lt {w : World} {b : Nat} {v0 v1 : Value} (h : SumTwo w b v0 v1) : b < w.heap.size := World.block_lt_of_cell? w _ h.1

/-- What SumOf answers. -/
def sumOfV (xs : List (Int × Int)) : Int × Int × Bool := if canSumB xs then ((sumI xs).1, (sumI xs).2, true) else (0, 0, false)
theorem sumOfV_no {xs : List (Int × Int)} (h : canSumB xs = false) : sumOfV xs = (0, 0, false) := by simp [sumOfV, h]
theorem sumOfV_yes {xs : List (Int × Int)} (h : canSumB xs = true) : sumOfV xs = ((sumI xs).1, (sumI xs).2, true) := by simp [sumOfV, h]
theorem canSumB_iff {xs : List (Int × Int)} : canSumB xs = true ↔ xs.length ≤ 7 ∧ okAll xs = true := by simp [canSumB]

end Go.Proofs.Ythpdlbcdbncnhaa
namespace Go.Proofs.Ythpdlbcdbncnhaa
open Go.RowKit Plain
attribute [local go_sem] Keeps.refl Keeps.alloc Keeps.drew Keeps.drewN

set_option maxRecDepth 100000 in
set_option maxHeartbeats 1600000 in
theorem specSumOf_any (a : Option Addr) (cap : Nat) (xs : List (Int × Int)) (w : World) (hl : xs.length ≤ maxLen) (hs : Sh w a xs) :
    Calls Try.prog 59 #[.slice a xs.length cap] w fun e w' => e = .returned (.tuple #[.int .i64 (sumOfV xs).1, .int .i64 (sumOfV xs).2.1, .bool (sumOfV xs).2.2]) ∧ Keeps w w' := by
  unfold maxLen at hl
  generalize hn : xs.length = n at hl
  have Hn : Hid (xs.length = n) := hn
  by_cases h7 : 7 < n
  · have Hr : Hid (sumOfV xs = (0, 0, false)) := sumOfV_no (by simp [canSumB, hn]; omega)
    clear hn
    go_enter Try.func59, Try.ntmps59
    go_wp2
    go_ret3
    exact ⟨by rw [Hr.out]; rfl, Keeps.refl _⟩
  · clear hn
    have h7' : n ≤ 7 := by omega
    go_enter Try.func59, Try.ntmps59
    go_wp2
    go_loopw [5, 6, 7] (fun s t i wr => ∃ k : Nat, k ≤ n ∧ i = .int .i64 k ∧ ∃ nn dd : Int, s = .int .i64 nn ∧ t = .int .i64 dd ∧ Hid (sumI (xs.take k) = (nn, dd)) ∧ Inv k (nn, dd) ∧ Hid (okAll (xs.take k) = true) ∧ Keeps w wr) (fun _ _ i _ => n - (intOf i).toNat)
    case atStart => exact ⟨0, Nat.zero_le _, rfl, 0, 1, rfl, rfl, rfl, inv_zero, by simp [Hid, okAll], Keeps.refl _⟩
    case round =>
      obtain ⟨k, hk, rfl, nn, dd, rfl, rfl, hsum, hI, hok, hK⟩ := hrel
      by_cases hlt : k < n
      · obtain ⟨b, off, q, p, rfl, e, c0, c1⟩ := hs.at (by rw [Hn.out]; exact hlt)
        have E : Hid (xs.getD k (0, 0) = (q, p)) := e
        clear e
        have r0 := Keeps.has c0
        have r1 := Keeps.has c1
        have hlt' : (k : Int) < (n : Int) := by omega
        clear c0 c1 hs
        cases ho : okB q p
        · have Hf : Hid (sumOfV xs = (0, 0, false)) := by
            refine sumOfV_no ?_
            have := okAll_no (k := k) (by rw [Hn.out]; exact hlt) (by rw [E.out]; exact ho)
            simp [canSumB, this]
          go_wp2_with (go_at_call 58; refine (specShareOk_k _ _ _).mono ?_; rintro e w1 ⟨rfl, hb⟩; have kk : Keeps w w1 := hK.trans hb)
          go_ret3
          exact ⟨by rw [Hf.out]; rfl, kk⟩
        · have Hf : Hid (okAll (xs.take (k + 1)) = true) := by
            show _ = _
            rw [okAll_snoc xs k (by rw [Hn.out]; exact hlt), hok.out, E.out]; exact ho
          obtain ⟨⟨hp1, hp2⟩, hq1, hq2⟩ := okB_iff.1 ho
          obtain ⟨b1, b2, b3, b4, b5, b6, b7, b8⟩ := step_bd hI (by omega) hp1 hp2 hq1 hq2
          have hI' := step_next hI hp1 hp2 hq1 hq2
          have Hs : Hid (sumI (xs.take (k + 1)) = stepI (nn, dd) (q, p)) := by
            show _ = _
            rw [sumI_take xs k (by rw [Hn.out]; exact hlt), hsum.out, E.out]
          clear hI
          go_wp2_with (go_at_call 58; refine (specShareOk_k _ _ _).mono ?_; rintro e w1 ⟨rfl, hb⟩; have kk : Keeps w w1 := hK.trans hb)
          go_quiet (fail)
          go_wp2_with (go_at_call 77; refine (l1Gcd_int _ _ _ ?_ ?_ ?_ ?_).mono ?_; omega; omega; omega; omega; rintro e w1 ⟨rfl, m, rfl⟩)
          refine ⟨⟨k + 1, by omega, by go_num, _, _, rfl, rfl, Hs, hI', Hf, kk.drewN _⟩, by simp only [intOf]; omega⟩
      · have Hf : Hid (sumOfV xs = (nn, dd, true)) := by
          have h1 := hsum.out
          have h2 := hok.out
          rw [List.take_of_length_le (by rw [Hn.out]; omega)] at h1 h2
          show _ = _
          rw [sumOfV_yes (canSumB_iff.2 ⟨by rw [Hn.out]; exact h7', h2⟩), h1]
        go_wp2
        go_ret3
        exact ⟨by rw [Hf.out]; rfl, hK⟩

set_option maxRecDepth 100000 in
set_option maxHeartbeats 1000000 in
theorem specFits_any (a : Option Addr) (cap : Nat) (xs : List (Int × Int)) (w : World) (hl : xs.length ≤ maxLen) (hs : Sh w a xs) :
    Calls Try.prog 43 #[.slice a xs.length cap] w fun e w' => e = .returned (.bool (canSumB xs && decide ((sumI xs).1 ≤ (sumI xs).2))) ∧ Keeps w w' := by
  cases hc : canSumB xs
  · have Hr : Hid (sumOfV xs = (0, 0, false)) := sumOfV_no hc
    go_enter Try.func43, Try.ntmps43
    go_wp2_with (go_at_call 59; refine (specSumOf_any _ _ _ _ hl hs).mono ?_; rintro e w1 ⟨rfl, hb⟩; rw [Hr.out])
    go_ret
    exact ⟨rfl, hb⟩
  · have Hr : Hid (sumOfV xs = ((sumI xs).1, (sumI xs).2, true)) := sumOfV_yes hc
    generalize (sumI xs).1 = s1 at *
    generalize (sumI xs).2 = s2 at *
    go_enter Try.func43, Try.ntmps43
    go_wp2_with (go_at_call 59; refine (specSumOf_any _ _ _ _ hl hs).mono ?_; rintro e w1 ⟨rfl, hb⟩; rw [Hr.out])
    go_ret
    exact ⟨rfl, hb⟩
end Go.Proofs.Ythpdlbcdbncnhaa
namespace Go.Proofs.Ythpdlbcdbncnhaa
open Go.RowKit
attribute [local go_sem] Keeps.refl Keeps.alloc Keeps.drew Keeps.drewN

theorem SumTwo.but {g : Nat} {w w' : World} {b : Nat} {v0 v1 : Value} (h : SumTwo w b v0 v1) (k : KeepsBut g w w') (hg : b ≠ g) : SumTwo w' b v0 v1 := by
  have hb := h.lt
  obtain ⟨h1, h2, h3, h4⟩ := h
  exact ⟨KeepsBut.has hg h1 _ k, KeepsBut.has hg h2 _ k, (World.frozen?_of_block (w := w) (k.block b hb hg)).trans h3, (World.frozen?_of_block (w := w) (k.block b hb hg)).trans h4⟩
theorem SumTwo.set0 {w : World} {b : Nat} {v0 v1 : Value} (h : SumTwo w b v0 v1) (x : Value) : SumTwo (w.setCell ⟨b, 0, none⟩ x) b x v1 := by
  obtain ⟨h1, h2, h3, h4⟩ := h
  exact ⟨setCell_same h1 _, by rw [setCell_other (by omega), h2], by simp [h3], by simp [h4]⟩
theorem SumTwo.set1 {w : World} {b : Nat} {v0 v1 : Value} (h : SumTwo w b v0 v1) (x : Value) : SumTwo (w.setCell ⟨b, 1, none⟩ x) b v0 x := by
  obtain ⟨h1, h2, h3, h4⟩ := h
  exact ⟨by rw [setCell_other (by omega), h1], setCell_same h2 _, by simp [h3], by simp [h4]⟩
theorem SumTwo.far {w : World} {b c o : Nat} {v0 v1 : Value} (h : SumTwo w b v0 v1) (hc : c ≠ b) (x : Value) : SumTwo (w.setCell ⟨c, o, none⟩ x) b v0 v1 := by
  obtain ⟨h1, h2, h3, h4⟩ := h
  exact ⟨by rw [setCell_other (by omega), h1], by rw [setCell_other (by omega), h2], by simp [h3], by simp [h4]⟩
theorem SumTwo.new (w : World) (v0 v1 : Value) (t : TypeId) : SumTwo (w.alloc (.cells #[v0, v1] t)) w.heap.size v0 v1 := by simp [SumTwo, go_sem]
theorem SumTwo.alloc {w : World} {b : Nat} {v0 v1 : Value} (h : SumTwo w b v0 v1) (o : Obj) : SumTwo (w.alloc o) b v0 v1 := h.keeps ((Keeps.refl w).alloc o)
theorem setCell_size (w : World) (a : Addr) (v : Value) : (w.setCell a v).heap.size = w.heap.size := by simp [World.setCell]

/-- What the end of a draw of one part needs: the part in block s, room for the answer in block r. -/
structure At (g : Nat) (w W : World) (r s : Nat) (q p : Int) : Prop where
  cur : Cur W g
  keep : KeepsBut g w W
  res : SumTwo W r (.int .i64 0) (.int .i64 0)
  part : SumTwo W s (.int .i64 q) (.int .i64 p)
  gr : g < r
  rs : r < s
  wr : w.heap.size ≤ r
theorem At.but {g : Nat} {w W W' : World} {r s : Nat} {q p : Int} (h : At g w W r s q p) (hc : Cur W' g) (k : KeepsBut g W W') : At g w W' r s q p :=
  ⟨hc, h.keep.trans k, h.res.but k (by have := h.gr; omega), h.part.but k (by have := h.gr; have := h.rs; omega), h.gr, h.rs, h.wr⟩
theorem At.setQ {g : Nat} {w W : World} {r s : Nat} {q p : Int} (h : At g w W r s q p) (x : Int) : At g w (W.setCell ⟨s, 0, none⟩ (.int .i64 x)) r s x p :=
  ⟨h.cur.setNew (by have := h.gr; have := h.rs; omega) _ _, h.keep.setNew (by have := h.wr; have := h.rs; simp; omega) _, h.res.far (by have := h.rs; omega) _, h.part.set0 _, h.gr, h.rs, h.wr⟩
theorem At.setP {g : Nat} {w W : World} {r s : Nat} {q p : Int} (h : At g w W r s q p) (x : Int) : At g w (W.setCell ⟨s, 1, none⟩ (.int .i64 x)) r s q x :=
  ⟨h.cur.setNew (by have := h.gr; have := h.rs; omega) _ _, h.keep.setNew (by have := h.wr; have := h.rs; simp; omega) _, h.res.far (by have := h.rs; omega) _, h.part.set1 _, h.gr, h.rs, h.wr⟩

theorem At.done {g : Nat} {w W : World} {r s : Nat} {q p : Int} (h : At g w W r s q p) (x y : Value) : Cur ((W.setCell ⟨r, 0, none⟩ x).setCell ⟨r, 1, none⟩ y) g ∧ KeepsBut g w ((W.setCell ⟨r, 0, none⟩ x).setCell ⟨r, 1, none⟩ y) :=
  ⟨(h.cur.setNew h.gr _ _).setNew h.gr _ _, (h.keep.setNew h.wr _).setNew h.wr _⟩

end Go.Proofs.Ythpdlbcdbncnhaa
