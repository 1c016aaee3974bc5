/-
  Sums of parts without loss: the plain arithmetic. No Go in sight.
  The contract of the model's l1In.
  What is a nice: the contract of the model's NiceOk.
  The program's own test whether a number lies between two.
  A part of time is right: contracts of the program's and of the model's ShareOk.
  Parts of time: contracts of the functions that say which part is right and which of two is less.
  Sums of parts of time: contracts of the functions that add parts up, of the program and of the model.
  Lists of parts of time: the law's own helpers: a copy is made, two are held against each other, how long one is.
  SumTwo drawn numbers.
  Drawn parts of time: contracts of the model's draws of chapter 1.
-/
import Derived.Test.YtpikopdfkhagmaaGreatDoorRows
import Derived.Test.YtpikopdfkhagmaaGreatDoorBase
import Derived.Laws.ResultCell
import Derived.Test.4cd
import Derived.Deep.RegionHeld3
import Derived.Test.YtpikopdfkhagmaaGreatDoorCur
import Derived.Deep.OwnRows
import Derived.Deep.AppendLies
namespace Go.Proofs.YtpikopdfkhagmaaGreatDoor.Plain

/-- One part more: the sum in lowest terms. -/
def stepQ (s x : Int × Int) : Int × Int :=
  ((s.1 * x.2 + x.1 * s.2) / (Int.gcd (s.1 * x.2 + x.1 * s.2) (s.2 * x.2) : Int), (s.2 * x.2) / (Int.gcd (s.1 * x.2 + x.1 * s.2) (s.2 * x.2) : Int))
def sumI (xs : List (Int × Int)) : Int × Int := xs.foldl stepQ (0, 1)
theorem sumI_snoc (xs : List (Int × Int)) (x : Int × Int) : sumI (xs ++ [x]) = stepQ (sumI xs) x := by simp [sumI]
theorem sumI_take (xs : List (Int × Int)) (k : Nat) (h : k < xs.length) : sumI (xs.take (k + 1)) = stepQ (sumI (xs.take k)) (xs.getD k (0, 0)) := by
  rw [List.take_succ_eq_append_getElem h, sumI_snoc]; simp [h]

/-- What a sum of k parts keeps to. -/
def Inv (k : Nat) (s : Int × Int) : Prop := 0 ≤ s.1 ∧ 1 ≤ s.2 ∧ s.2 ≤ ((40 ^ k : Nat) : Int) ∧ s.1 ≤ (k : Int) * s.2

theorem inv_zero : Inv 0 (0, 1) := by simp [Inv]

theorem div_parts (n d g : Int) (_hg : 1 ≤ g) (hn : g ∣ n) (hd : g ∣ d) : n = g * (n / g) ∧ d = g * (d / g) := ⟨(Int.mul_ediv_cancel' hn).symm, (Int.mul_ediv_cancel' hd).symm⟩

theorem mul_le_mono {a b c : Int} (h : a ≤ b) (hc : 0 ≤ c) : a * c ≤ b * c := Int.mul_le_mul_of_nonneg_right h hc
theorem mul_le_mono' {a b c : Int} (h : a ≤ b) (hc : 0 ≤ c) : c * a ≤ c * b := Int.mul_le_mul_of_nonneg_left h hc

theorem step_inv {k : Nat} {n d q p : Int} (h : Inv k (n, d)) (hp1 : 1 ≤ p) (hp2 : p ≤ 40) (hq1 : 1 ≤ q) (hq2 : q ≤ p) :
    1 ≤ (Int.gcd (n * p + q * d) (d * p) : Int) ∧ (Int.gcd (n * p + q * d) (d * p) : Int) ≤ d * p ∧ 0 ≤ n * p ∧ 0 ≤ q * d ∧ 1 ≤ d * p ∧ n * p + q * d ≤ (k + 1 : Int) * (d * p) ∧ n * p ≤ (k : Int) * (d * p) ∧ q * d ≤ d * p ∧ d * p ≤ ((40 ^ (k + 1) : Nat) : Int) ∧ Inv (k + 1) (stepQ (n, d) (q, p)) := by
  obtain ⟨h1, h2, h3, h4⟩ := h
  simp only at h1 h2 h3 h4
  have a1 : 0 ≤ n * p := Int.mul_nonneg h1 (by omega)
  have a2 : 0 ≤ q * d := Int.mul_nonneg (by omega) (by omega)
  have a3 : 1 * 1 ≤ d * p := Int.mul_le_mul h2 hp1 (by omega) (by omega)
  have a4 : n * p ≤ ((k : Int) * d) * p := mul_le_mono h4 (by omega)
  have a5 : q * d ≤ p * d := mul_le_mono hq2 (by omega)
  have a6 : ((k : Int) * d) * p = (k : Int) * (d * p) := Int.mul_assoc _ _ _
  have a7 : p * d = d * p := Int.mul_comm _ _
  have a8 : (k + 1 : Int) * (d * p) = (k : Int) * (d * p) + d * p := by rw [Int.add_mul, Int.one_mul]
  have a9 : d * p ≤ ((40 ^ k : Nat) : Int) * p := mul_le_mono h3 (by omega)
  have a10 : ((40 ^ k : Nat) : Int) * p ≤ ((40 ^ k : Nat) : Int) * 40 := mul_le_mono' hp2 (by omega)
  have a11 : ((40 ^ (k + 1) : Nat) : Int) = ((40 ^ k : Nat) : Int) * 40 := by rw [Nat.pow_succ]; exact Int.natCast_mul _ _
  have g0 : 0 < Int.gcd (n * p + q * d) (d * p) := Int.gcd_pos_of_ne_zero_right _ (by omega)
  have gd := Int.gcd_dvd_right (n * p + q * d) (d * p)
  have gn := Int.gcd_dvd_left (n * p + q * d) (d * p)
  have gle := Int.le_of_dvd (by omega) gd
  unfold Inv stepQ
  simp only
  generalize (Int.gcd (n * p + q * d) (d * p) : Nat) = g at *
  obtain ⟨e1, e2⟩ := div_parts _ _ (g : Int) (by omega) gn gd
  have f1 : 0 ≤ (n * p + q * d) / (g : Int) := Int.ediv_nonneg (by omega) (by omega)
  have f2 : 0 < (d * p) / (g : Int) := Int.ediv_pos_of_pos_of_dvd (by omega) (by omega) gd
  have f3 : (d * p) / (g : Int) ≤ d * p := Int.ediv_le_self _ (by omega)
  generalize (n * p + q * d) / (g : Int) = n' at *
  generalize (d * p) / (g : Int) = d' at *
  refine ⟨by omega, by omega, a1, a2, by omega, by omega, by omega, by omega, by omega, f1, by omega, by omega, ?_⟩
  have c1 : n * p + q * d ≤ (k + 1 : Int) * (d * p) := by omega
  rw [e1, e2] at c1
  have c2 : (k + 1 : Int) * ((g : Int) * d') = (g : Int) * ((k + 1 : Int) * d') := Int.mul_left_comm _ _ _
  rw [c2] at c1
  have := Int.le_of_mul_le_mul_left c1 (by omega)
  simpa using this

theorem pow40 {k : Nat} (h : k ≤ 7) : ((40 ^ k : Nat) : Int) ≤ 163840000000 := by
  have : 40 ^ k ≤ 40 ^ 7 := Nat.pow_le_pow_right (by omega) h
  omega

theorem step_bd {k : Nat} {n d q p : Int} (h : Inv k (n, d)) (hk : k < 7) (hp1 : 1 ≤ p) (hp2 : p ≤ 40) (hq1 : 1 ≤ q) (hq2 : q ≤ p) :
    0 ≤ n * p ∧ n * p ≤ 1146880000000 ∧ 0 ≤ q * d ∧ q * d ≤ 163840000000 ∧ 1 ≤ d * p ∧ d * p ≤ 163840000000 ∧ 1 ≤ (Int.gcd (n * p + q * d) (d * p) : Int) ∧ (Int.gcd (n * p + q * d) (d * p) : Int) ≤ 163840000000 := by
  obtain ⟨a1, a2, a3, a4, a5, a6, a7, a8, a9, _⟩ := step_inv h hp1 hp2 hq1 hq2
  have := pow40 (k := k + 1) (by omega)
  have : (k : Int) * (d * p) ≤ 7 * (d * p) := mul_le_mono (by omega) (by omega)
  omega
theorem step_next {k : Nat} {n d q p : Int} (h : Inv k (n, d)) (hp1 : 1 ≤ p) (hp2 : p ≤ 40) (hq1 : 1 ≤ q) (hq2 : q ≤ p) : Inv (k + 1) (stepQ (n, d) (q, p)) := (step_inv h hp1 hp2 hq1 hq2).2.2.2.2.2.2.2.2.2
end Go.Proofs.YtpikopdfkhagmaaGreatDoor.Plain
namespace Go.Proofs.YtpikopdfkhagmaaGreatDoor
open Go.RowKit

theorem l1In_any (x lo hi : Int) (w : World) :
    Calls Tryz.prog 29 #[.int .i64 x, .int .i64 lo, .int .i64 hi] w fun e w' => e = .returned (.bool (inB x lo hi)) ∧ w' = w := by
  by_cases h1 : lo ≤ x
  · by_cases h2 : x ≤ hi
    · have Hr : Hid (inB x lo hi = true) := inB_yes h1 h2
      go_enter Tryz.func29, Tryz.ntmps29
      go_wp2
      go_ret
      exact ⟨by rw [Hr.out]; rfl, rfl⟩
    · have Hr : Hid (inB x lo hi = false) := inB_no (.inr (by omega))
      have hd : decide (x ≤ hi) = false := by simpa using h2
      go_enter Tryz.func29, Tryz.ntmps29
      go_wp2
      go_ret
      exact ⟨by rw [Hr.out]; rfl, rfl⟩
  · have Hr : Hid (inB x lo hi = false) := inB_no (.inl (by omega))
    have hd : decide (lo ≤ x) = false := by simpa using h1
    go_enter Tryz.func29, Tryz.ntmps29
    go_wp2
    go_ret
    exact ⟨by rw [Hr.out]; rfl, rfl⟩

end Go.Proofs.YtpikopdfkhagmaaGreatDoor
namespace Go.Proofs.YtpikopdfkhagmaaGreatDoor
open Go.RowKit

theorem specNiceOk_any (x : Int) (w : World) :
    Calls Tryz.prog 78 #[.int .i64 x] w fun e w' => e = .returned (.bool (inB x (-4) 4)) ∧ w' = w := by
  go_enter Tryz.func78, Tryz.ntmps78
  go_wp2_with (go_at_call 29; refine (l1In_any _ _ _ _).mono ?_; rintro e w' ⟨rfl, rfl⟩)
  go_ret
  exact ⟨rfl, rfl⟩

end Go.Proofs.YtpikopdfkhagmaaGreatDoor
namespace Go.Proofs.YtpikopdfkhagmaaGreatDoor
open Go.RowKit

set_option maxRecDepth 100000 in
theorem isWithin_any (x lo hi : Int) (w : World) :
    Calls Tryz.prog 50 #[.int .i64 x, .int .i64 lo, .int .i64 hi] w fun e w' => e = .returned (.bool (inB x lo hi)) ∧ w' = w := by
  by_cases h1 : lo ≤ x
  · by_cases h2 : x ≤ hi
    · have Hr : Hid (inB x lo hi = true) := inB_yes h1 h2
      go_enter Tryz.func50, Tryz.ntmps50
      go_wp2
      go_ret
      exact ⟨by rw [Hr.out]; rfl, rfl⟩
    · have Hr : Hid (inB x lo hi = false) := inB_no (.inr (by omega))
      have hd : decide (x ≤ hi) = false := by simpa using h2
      go_enter Tryz.func50, Tryz.ntmps50
      go_wp2
      go_ret
      exact ⟨by rw [Hr.out]; rfl, rfl⟩
  · have Hr : Hid (inB x lo hi = false) := inB_no (.inl (by omega))
    have hd : decide (lo ≤ x) = false := by simpa using h1
    go_enter Tryz.func50, Tryz.ntmps50
    go_wp2
    go_ret
    exact ⟨by rw [Hr.out]; rfl, rfl⟩
end Go.Proofs.YtpikopdfkhagmaaGreatDoor
namespace Go.Proofs.YtpikopdfkhagmaaGreatDoor
open Go.RowKit

/-- A part of time as a value. -/
abbrev sh (q p : Int) : Value := .agg #[.int .i64 q, .int .i64 p]

/-- It is right. -/
def okB (q p : Int) : Bool := inB p 1 40 && inB q 1 p
theorem okB_iff {q p : Int} : okB q p = true ↔ (1 ≤ p ∧ p ≤ 40) ∧ 1 ≤ q ∧ q ≤ p := by simp [okB, inB_iff]

theorem specShareOk_any (q p : Int) (w : World) :
    Calls Tryz.prog 87 #[sh q p] w fun e w' => e = .returned (.bool (okB q p)) ∧ w' = w.alloc (.cells #[.int .i64 q, .int .i64 p] 127) := by
  cases h1 : inB p 1 40
  · have Hr : Hid (okB q p = false) := by show _ = _; simp [okB, h1]
    go_enter Tryz.func87, Tryz.ntmps87
    go_wp2_with (go_at_call 29; refine (l1In_any _ _ _ _).mono ?_; rintro e w' ⟨rfl, rfl⟩)
    go_ret
    exact ⟨by rw [Hr.out]; rfl, rfl⟩
  · have Hr : Hid (okB q p = inB q 1 p) := by show _ = _; simp [okB, h1]
    go_enter Tryz.func87, Tryz.ntmps87
    go_wp2_with (go_at_call 29; refine (l1In_any _ _ _ _).mono ?_; rintro e w' ⟨rfl, rfl⟩)
    go_ret
    exact ⟨by rw [Hr.out]; rfl, rfl⟩

theorem specShareOk_k (q p : Int) (w : World) :
    Calls Tryz.prog 87 #[sh q p] w fun e w' => e = .returned (.bool (okB q p)) ∧ Keeps w w' :=
  (specShareOk_any q p w).mono (by rintro e w' ⟨rfl, rfl⟩; exact ⟨rfl, (Keeps.refl _).alloc _⟩)

end Go.Proofs.YtpikopdfkhagmaaGreatDoor
namespace Go.Proofs.YtpikopdfkhagmaaGreatDoor
open Go.RowKit

end Go.Proofs.YtpikopdfkhagmaaGreatDoor
namespace Go.Proofs.YtpikopdfkhagmaaGreatDoor
open Go.RowKit
attribute [local go_sem] Keeps.refl Keeps.alloc Keeps.drew Keeps.drewN

/-- The parts xs lie in the world, one behind the other, from the address on. -/
def Sh (w : World) (a : Option Addr) (xs : List (Int × Int)) : Prop :=
  xs = [] ∨ ∃ b off, a = some ⟨b, off, none⟩ ∧ ∀ i, i < xs.length → w.cell? ⟨b, off + i * 2, none⟩ = some (.int .i64 (xs.getD i (0, 0)).1) ∧ w.cell? ⟨b, off + i * 2 + 1, none⟩ = some (.int .i64 (xs.getD i (0, 0)).2)
theorem Sh.keeps {w w' : World} {a : Option Addr} {xs : List (Int × Int)} (h : Sh w a xs) (k : Keeps w w') : Sh w' a xs := by
  rcases h with h | ⟨b, off, rfl, h⟩
  · exact .inl h
  · exact .inr ⟨b, off, rfl, fun i hi => ⟨Keeps.has (h i hi).1 _ k, Keeps.has (h i hi).2 _ k⟩⟩
theorem Sh.at {w : World} {a : Option Addr} {xs : List (Int × Int)} (h : Sh w a xs) {i : Nat} (hi : i < xs.length) :
    ∃ b off q p, a = some ⟨b, off, none⟩ ∧ xs.getD i (0, 0) = (q, p) ∧ w.cell? ⟨b, off + i * 2, none⟩ = some (.int .i64 q) ∧ w.cell? ⟨b, off + i * 2 + 1, none⟩ = some (.int .i64 p) := by
  rcases h with rfl | ⟨b, off, rfl, h⟩
  · simp at hi
  · exact ⟨b, off, _, _, rfl, rfl, (h i hi).1, (h i hi).2⟩

/-- All are right. -/
def okAll (xs : List (Int × Int)) : Bool := xs.all fun x => okB x.1 x.2
theorem okAll_snoc (xs : List (Int × Int)) (k : Nat) (h : k < xs.length) : okAll (xs.take (k + 1)) = (okAll (xs.take k) && okB (xs.getD k (0, 0)).1 (xs.getD k (0, 0)).2) := by
  rw [List.take_succ_eq_append_getElem h, okAll, List.all_append]; simp [okAll, h]
theorem okAll_no {xs : List (Int × Int)} {k : Nat} (h : k < xs.length) (hk : okB (xs.getD k (0, 0)).1 (xs.getD k (0, 0)).2 = false) : okAll xs = false := by
  rw [okAll, List.all_eq_false]
  refine ⟨xs[k], List.getElem_mem h, ?_⟩
  have e : xs.getD k (0, 0) = xs[k] := by simp [h]
  rw [e] at hk; simp [hk]
def canSumB (xs : List (Int × Int)) : Bool := decide (xs.length ≤ 7) && okAll xs

set_option maxRecDepth 100000 in
theorem l1Gcd_int (a b : Int) (w : World) (ha : 0 ≤ a) (ha' : a ≤ 9223372036854775807) (hb : 0 ≤ b) (hb' : b ≤ 9223372036854775807) :
    Calls Tryz.prog 110 #[.int .i64 a, .int .i64 b] w fun e w' => e = .returned (.int .i64 (Int.gcd a b)) ∧ Quiet w w' := by
  obtain ⟨x, rfl⟩ := Int.eq_ofNat_of_zero_le ha
  obtain ⟨y, rfl⟩ := Int.eq_ofNat_of_zero_le hb
  exact l1Gcd_any x y w (by omega) (by omega)
open Plain

/-- A block of two cells that may be written. -/
def SumTwo (w : World) (b : Nat) (v0 v1 : Value) : Prop := w.cell? ⟨b, 0, none⟩ = some v0 ∧ w.cell? ⟨b, 1, none⟩ = some v1 ∧ w.frozen? ⟨b, 0, none⟩ = false ∧ w.frozen? ⟨b, 1, none⟩ = false

theorem SumTwo.rules {w : World} {b : Nat} {v0 v1 : Value} (h : SumTwo w b v0 v1) : (∀ w', Keeps w w' → w'.cell? ⟨b, 0, none⟩ = some v0) ∧ (∀ w', Keeps w w' → w'.cell? ⟨b, 1, none⟩ = some v1) ∧ (∀ w', Keeps w w' → w'.frozen? ⟨b, 0, none⟩ = false) ∧ ∀ w', Keeps w w' → w'.frozen? ⟨b, 1, none⟩ = false := by
  obtain ⟨h1, h2, h3, h4⟩ := h
  have hb : b < w.heap.size := World.block_lt_of_cell? w _ h1
  exact ⟨Keeps.has h1, Keeps.has h2, fun w' k => (k.frozens b 0 hb).trans h3, fun w' k => (k.frozens b 1 hb).trans h4⟩
theorem SumTwo.keeps {w w' : World} {b : Nat} {v0 v1 : Value} (h : SumTwo w b v0 v1) (k : Keeps w w') : SumTwo w' b v0 v1 :=
  ⟨h.rules.1 _ k, h.rules.2.1 _ k, h.rules.2.2.1 _ k, h.rules.2.2.2 _ k⟩
theorem SumTwo.set {w : World} {b : Nat} {v0 v1 : Value} (h : SumTwo w b v0 v1) (x y : Value) : SumTwo ((w.setCell ⟨b, 0, none⟩ x).setCell ⟨b, 1, none⟩ y) b x y := by
  obtain ⟨h1, h2, h3, h4⟩ := h
  have e2 : (w.setCell ⟨b, 0, none⟩ x).cell? ⟨b, 1, none⟩ = some v1 := by rw [setCell_other (by omega), h2]
  exact ⟨by rw [setCell_other (by omega), setCell_same h1], setCell_same e2 _, by simp [h3], by simp [h4]⟩
theorem SumTwo.other {w : World} {b c : Nat} {v0 v1 : Value} (h : SumTwo w b v0 v1) (hc : c ≠ b) (x y : Value) : SumTwo ((w.setCell ⟨c, 0, none⟩ x).setCell ⟨c, 1, none⟩ y) b v0 v1 := by
  obtain ⟨h1, h2, h3, h4⟩ := h
  exact ⟨by rw [setCell_other (by omega), setCell_other (by omega), h1], by rw [setCell_other (by omega), setCell_other (by omega), h2], by simp [h3], by simp [h4]⟩
theorem SumTwo.lt {w : World} {b : Nat} {v0 v1 : Value} (h : SumTwo w b v0 v1) : b < w.heap.size := World.block_lt_of_cell? w _ h.1

/-- What SumOf answers. -/
def sumOfV (xs : List (Int × Int)) : Int × Int × Bool := if canSumB xs then ((sumI xs).1, (sumI xs).2, true) else (0, 0, false)
theorem sumOfV_no {xs : List (Int × Int)} (h : canSumB xs = false) : sumOfV xs = (0, 0, false) := by simp [sumOfV, h]
theorem sumOfV_yes {xs : List (Int × Int)} (h : canSumB xs = true) : sumOfV xs = ((sumI xs).1, (sumI xs).2, true) := by simp [sumOfV, h]
theorem canSumB_iff {xs : List (Int × Int)} : canSumB xs = true ↔ xs.length ≤ 7 ∧ okAll xs = true := by simp [canSumB]

end Go.Proofs.YtpikopdfkhagmaaGreatDoor
namespace Go.Proofs.YtpikopdfkhagmaaGreatDoor
open Go.RowKit Plain
attribute [local go_sem] Keeps.refl Keeps.alloc Keeps.drew Keeps.drewN

end Go.Proofs.YtpikopdfkhagmaaGreatDoor
namespace Go.Proofs.YtpikopdfkhagmaaGreatDoor
open Go.RowKit

end Go.Proofs.YtpikopdfkhagmaaGreatDoor
namespace Go.Proofs.YtpikopdfkhagmaaGreatDoor
open Go.RowKit
attribute [local go_sem] Keeps.refl Keeps.alloc Keeps.drew Keeps.drewN

theorem SumTwo.but {g : Nat} {w w' : World} {b : Nat} {v0 v1 : Value} (h : SumTwo w b v0 v1) (k : KeepsBut g w w') (hg : b ≠ g) : SumTwo w' b v0 v1 := by
  have hb := h.lt
  obtain ⟨h1, h2, h3, h4⟩ := h
  exact ⟨KeepsBut.has hg h1 _ k, KeepsBut.has hg h2 _ k, (World.frozen?_of_block (w := w) (k.block b hb hg)).trans h3, (World.frozen?_of_block (w := w) (k.block b hb hg)).trans h4⟩
theorem SumTwo.far {w : World} {b c o : Nat} {v0 v1 : Value} (h : SumTwo w b v0 v1) (hc : c ≠ b) (x : Value) : SumTwo (w.setCell ⟨c, o, none⟩ x) b v0 v1 := by
  obtain ⟨h1, h2, h3, h4⟩ := h
  exact ⟨by rw [setCell_other (by omega), h1], by rw [setCell_other (by omega), h2], by simp [h3], by simp [h4]⟩
theorem SumTwo.new (w : World) (v0 v1 : Value) (t : TypeId) : SumTwo (w.alloc (.cells #[v0, v1] t)) w.heap.size v0 v1 := by simp [SumTwo, go_sem]
theorem SumTwo.alloc {w : World} {b : Nat} {v0 v1 : Value} (h : SumTwo w b v0 v1) (o : Obj) : SumTwo (w.alloc o) b v0 v1 := h.keeps ((Keeps.refl w).alloc o)
/-- What the end of a draw of one part needs: the part in block s, room for the answer in block r. -/
structure At (g : Nat) (w W : World) (r s : Nat) (q p : Int) : Prop where
  cur : Cur W g
  keep : KeepsBut g w W
  res : SumTwo W r (.int .i64 0) (.int .i64 0)
  part : SumTwo W s (.int .i64 q) (.int .i64 p)
  gr : g < r
  rs : r < s
  wr : w.heap.size ≤ r
theorem At.but {g : Nat} {w W W' : World} {r s : Nat} {q p : Int} (h : At g w W r s q p) (hc : Cur W' g) (k : KeepsBut g W W') : At g w W' r s q p :=
  ⟨hc, h.keep.trans k, h.res.but k (by have := h.gr; omega), h.part.but k (by have := h.gr; have := h.rs; omega), h.gr, h.rs, h.wr⟩
theorem At.done {g : Nat} {w W : World} {r s : Nat} {q p : Int} (h : At g w W r s q p) (x y : Value) : Cur ((W.setCell ⟨r, 0, none⟩ x).setCell ⟨r, 1, none⟩ y) g ∧ KeepsBut g w ((W.setCell ⟨r, 0, none⟩ x).setCell ⟨r, 1, none⟩ y) :=
  ⟨(h.cur.setNew h.gr _ _).setNew h.gr _ _, (h.keep.setNew h.wr _).setNew h.wr _⟩

end Go.Proofs.YtpikopdfkhagmaaGreatDoor
