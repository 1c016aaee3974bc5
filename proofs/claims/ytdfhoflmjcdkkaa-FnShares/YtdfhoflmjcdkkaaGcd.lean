/-
  The greatest common divisor: contracts of the program's and of the model's functions over it, each for every argument that its callers hand it.
-/
import Derived.Test.YtdfhoflmjcdkkaaRows
import Derived.WalkKit
import Derived.WalkSpells
import Derived.WalkLawsBesides
import Derived.RegionTactic
import Derived.Deep.QuietTactic
import Derived.BigQuiet
import Derived.Below
namespace Go.Proofs.Ytdfhoflmjcdkkaa
open Go.RowKit

/-- The world has at most drawn. -/
def Quiet (w w' : World) : Prop := ∃ n, w' = w.drewN n
theorem Quiet.refl (w : World) : Quiet w w := ⟨0, rfl⟩
theorem Quiet.drewN {w w' : World} (h : Quiet w w') (n : Nat) : Quiet w (w'.drewN n) := by
  obtain ⟨m, rfl⟩ := h; exact ⟨m + n, by simp [World.drewN, Nat.add_assoc]⟩
theorem Quiet.trans {a b c : World} (h : Quiet a b) (k : Quiet b c) : Quiet a c := by
  obtain ⟨m, rfl⟩ := k; exact h.drewN m
theorem Quiet.below {w w' : World} (h : Quiet w w') (B : Nat) : Below B w w' := by
  obtain ⟨n, rfl⟩ := h; exact ⟨rfl, rfl, rfl, Nat.le_refl _, fun _ _ => rfl⟩

/-- Nothing that was there has turned; new blocks may be there. -/
def Keeps (w w' : World) : Prop := Below w.heap.size w w'
theorem Keeps.below {w w' : World} (h : Keeps w w') : Below w.heap.size w w' := h
theorem Keeps.refl (w : World) : Keeps w w := Below.refl _ _
theorem Keeps.size {w w' : World} (h : Keeps w w') : w.heap.size ≤ w'.heap.size := Below.size h
theorem Keeps.trans {a b c : World} (h : Keeps a b) (k : Keeps b c) : Keeps a c := Below.trans h (Below.mono k h.size)
theorem Keeps.alloc {a b : World} (h : Keeps a b) (o : Obj) : Keeps a (b.alloc o) := Below.alloc h h.size o
theorem Keeps.drew {a b : World} (h : Keeps a b) : Keeps a b.drew := Below.drew h
theorem Keeps.drewN {a b : World} (h : Keeps a b) (n : Nat) : Keeps a (b.drewN n) := Below.trans h ⟨rfl, rfl, rfl, Nat.le_refl _, fun _ _ => rfl⟩
theorem Keeps.quiet {a b c : World} (h : Keeps a b) (q : Quiet b c) : Keeps a c := by obtain ⟨n, rfl⟩ := q; exact h.drewN n
theorem Keeps.setCell {a b : World} (h : Keeps a b) {p : Addr} (hp : a.heap.size ≤ p.block) (u : Value) : Keeps a (b.setCell p u) := Below.setCell h hp u
theorem Keeps.cells {w w' : World} (h : Keeps w w') : ∀ b o, b < w.heap.size → w'.cell? ⟨b, o, none⟩ = w.cell? ⟨b, o, none⟩ :=
  fun b o hb => Below.cell (p := ⟨b, o, none⟩) h hb
theorem Keeps.frozens {w w' : World} (h : Keeps w w') : ∀ b o, b < w.heap.size → w'.frozen? ⟨b, o, none⟩ = w.frozen? ⟨b, o, none⟩ :=
  fun b o hb => Below.frozen (p := ⟨b, o, none⟩) h hb
/-- The rules that a walk goes by behind a call. -/
theorem Keeps.rules {w w' : World} (h : Keeps w w') : (∀ b o, b < w.heap.size → w'.cell? ⟨b, o, none⟩ = w.cell? ⟨b, o, none⟩) ∧ ∀ b o, b < w.heap.size → w'.frozen? ⟨b, o, none⟩ = w.frozen? ⟨b, o, none⟩ := ⟨h.cells, h.frozens⟩

/-- What a cell holds it holds in every world that keeps this one. -/
theorem Keeps.has {W : World} {b o : Nat} {v : Value} (h : W.cell? ⟨b, o, none⟩ = some v) : ∀ w', Keeps W w' → w'.cell? ⟨b, o, none⟩ = some v :=
  fun _ k => (k.cells b o (World.block_lt_of_cell? W _ h)).trans h

theorem tmod_nat (x y : Nat) : (x : Int).tmod (y : Int) = ((x % y : Nat) : Int) := by
  rw [Int.tmod_eq_emod_of_nonneg (by omega)]; rfl

theorem gcd_step (x y : Nat) : Nat.gcd y (x % y) = Nat.gcd x y := by
  rw [Nat.gcd_comm x y, Nat.gcd_rec y x, Nat.gcd_comm]

set_option maxHeartbeats 400000 in
theorem l1Gcd_any (a b : Nat) (w : World) (ha : a ≤ 9223372036854775807) (hb : b ≤ 9223372036854775807) :
    Calls Try.prog 35 #[.int .i64 a, .int .i64 b] w fun e w' => e = .returned (.int .i64 (Nat.gcd a b)) ∧ Quiet w w' := by
  go_enter Try.func35, Try.ntmps35
  go_wp2
  go_loopw [0, 1] (fun s t wr => ∃ x y : Nat, x ≤ 9223372036854775807 ∧ y ≤ 9223372036854775807 ∧ s = .int .i64 x ∧ t = .int .i64 y ∧ Hid (Nat.gcd x y = Nat.gcd a b) ∧ Quiet w wr) (fun _ t _ => (intOf t).toNat)
  case atStart => exact ⟨a, b, ha, hb, rfl, rfl, rfl, Quiet.refl _⟩
  case round =>
    obtain ⟨x, y, hx, hy, rfl, rfl, hg, hq⟩ := hrel
    by_cases h0 : 0 < y
    · have h1 : x % y < y := Nat.mod_lt _ h0
      have hn : ((y : Int) != 0) = true := by rw [bne_iff_ne]; omega
      go_wp2
      go_quiet (fail)
      go_wp2
      go_roundw
      case rel => exact ⟨y, x % y, hy, by omega, rfl, rfl, (gcd_step x y).trans hg.out, hq.drewN _⟩
      case measure => simp only [intOf]; omega
    · have h2 : y = 0 := by omega
      subst h2
      go_wp2
      go_ret
      exact ⟨by rw [← hg.out]; simp, hq⟩

set_option maxHeartbeats 400000 in
theorem commonDivisor_any (a b : Nat) (w : World) (ha : a ≤ 9223372036854775807) (hb : b ≤ 9223372036854775807) :
    Calls Try.prog 37 #[.int .i64 a, .int .i64 b] w fun e w' => e = .returned (.int .i64 (Nat.gcd a b)) ∧ Quiet w w' := by
  go_enter Try.func37, Try.ntmps37
  go_wp2
  go_loopw [0, 1] (fun s t wr => ∃ x y : Nat, x ≤ 9223372036854775807 ∧ y ≤ 9223372036854775807 ∧ s = .int .i64 x ∧ t = .int .i64 y ∧ Hid (Nat.gcd x y = Nat.gcd a b) ∧ Quiet w wr) (fun _ t _ => (intOf t).toNat)
  case atStart => exact ⟨a, b, ha, hb, rfl, rfl, rfl, Quiet.refl _⟩
  case round =>
    obtain ⟨x, y, hx, hy, rfl, rfl, hg, hq⟩ := hrel
    by_cases h0 : 0 < y
    · have h1 : x % y < y := Nat.mod_lt _ h0
      have hn : ((y : Int) != 0) = true := by rw [bne_iff_ne]; omega
      go_wp2
      go_quiet (fail)
      go_wp2
      go_roundw
      case rel => exact ⟨y, x % y, hy, by omega, rfl, rfl, (gcd_step x y).trans hg.out, hq.drewN _⟩
      case measure => simp only [intOf]; omega
    · have h2 : y = 0 := by omega
      subst h2
      go_wp2
      go_ret
      exact ⟨by rw [← hg.out]; simp, hq⟩

/-- x lies in lo .. hi. -/
def inB (x lo hi : Int) : Bool := decide (lo ≤ x) && decide (x ≤ hi)
theorem inB_yes {x lo hi : Int} (h : lo ≤ x) (h' : x ≤ hi) : inB x lo hi = true := by simp [inB, h, h']
theorem inB_no {x lo hi : Int} (h : x < lo ∨ hi < x) : inB x lo hi = false := by
  unfold inB; rcases h with h | h
  · rw [decide_eq_false (show ¬ lo ≤ x by omega)]; rfl
  · rw [decide_eq_false (show ¬ x ≤ hi by omega), Bool.and_false]
theorem inB_iff {x lo hi : Int} : inB x lo hi = true ↔ lo ≤ x ∧ x ≤ hi := by simp [inB]

theorem l1In_any (x lo hi : Int) (w : World) :
    Calls Try.prog 42 #[.int .i64 x, .int .i64 lo, .int .i64 hi] w fun e w' => e = .returned (.bool (inB x lo hi)) ∧ w' = w := by
  by_cases h1 : lo ≤ x
  · by_cases h2 : x ≤ hi
    · have Hr : Hid (inB x lo hi = true) := inB_yes h1 h2
      go_enter Try.func42, Try.ntmps42
      go_wp2
      go_ret
      exact ⟨by rw [Hr.out]; rfl, rfl⟩
    · have Hr : Hid (inB x lo hi = false) := inB_no (.inr (by omega))
      have hd : decide (x ≤ hi) = false := by simpa using h2
      go_enter Try.func42, Try.ntmps42
      go_wp2
      go_ret
      exact ⟨by rw [Hr.out]; rfl, rfl⟩
  · have Hr : Hid (inB x lo hi = false) := inB_no (.inl (by omega))
    have hd : decide (lo ≤ x) = false := by simpa using h1
    go_enter Try.func42, Try.ntmps42
    go_wp2
    go_ret
    exact ⟨by rw [Hr.out]; rfl, rfl⟩

theorem withinMillion_any (x : Int) (w : World) :
    Calls Try.prog 36 #[.int .i64 x] w fun e w' => e = .returned (.bool (inB x (-1000000) 1000000)) ∧ w' = w := by
  by_cases h1 : -1000000 ≤ x
  · by_cases h2 : x ≤ 1000000
    · have Hr : Hid (inB x (-1000000) 1000000 = true) := inB_yes h1 h2
      go_enter Try.func36, Try.ntmps36
      go_wp2
      go_ret
      exact ⟨by rw [Hr.out]; rfl, rfl⟩
    · have Hr : Hid (inB x (-1000000) 1000000 = false) := inB_no (.inr (by omega))
      have hd : decide (x ≤ 1000000) = false := by simpa using h2
      go_enter Try.func36, Try.ntmps36
      go_wp2
      go_ret
      exact ⟨by rw [Hr.out]; rfl, rfl⟩
  · have Hr : Hid (inB x (-1000000) 1000000 = false) := inB_no (.inl (by omega))
    have hd : decide (-1000000 ≤ x) = false := by simpa using h1
    go_enter Try.func36, Try.ntmps36
    go_wp2
    go_ret
    exact ⟨by rw [Hr.out]; rfl, rfl⟩

theorem withoutSign_any (x : Int) (w : World) (h : -1000000 ≤ x) (h' : x ≤ 1000000) :
    Calls Try.prog 38 #[.int .i64 x] w fun e w' => e = .returned (.int .i64 (x.natAbs : Int)) ∧ w' = w := by
  by_cases h0 : x < 0
  · have Hr : Hid ((x.natAbs : Int) = -x) := by show _ = _; omega
    go_enter Try.func38, Try.ntmps38
    go_wp2
    go_ret
    exact ⟨by rw [Hr.out]; rfl, rfl⟩
  · have Hr : Hid ((x.natAbs : Int) = x) := by show _ = _; omega
    go_enter Try.func38, Try.ntmps38
    go_wp2
    go_ret
    exact ⟨by rw [Hr.out]; rfl, rfl⟩

theorem l1Max_any (a b : Int) (w : World) :
    Calls Try.prog 45 #[.int .i64 a, .int .i64 b] w fun e w' => e = .returned (.int .i64 (max a b)) ∧ w' = w := by
  by_cases h0 : b < a
  · have Hr : Hid (max a b = a) := by show _ = _; omega
    go_enter Try.func45, Try.ntmps45
    go_wp2
    go_ret
    exact ⟨by rw [Hr.out]; rfl, rfl⟩
  · have Hr : Hid (max a b = b) := by show _ = _; omega
    go_enter Try.func45, Try.ntmps45
    go_wp2
    go_ret
    exact ⟨by rw [Hr.out]; rfl, rfl⟩

/-- What Gcd answers. -/
def gcdI (a b : Int) : Int := if inB a (-1000000) 1000000 && inB b (-1000000) 1000000 then (Nat.gcd a.natAbs b.natAbs : Int) else 0

theorem gcdI_in {a b : Int} (ha : inB a (-1000000) 1000000 = true) (hb : inB b (-1000000) 1000000 = true) : gcdI a b = (Nat.gcd a.natAbs b.natAbs : Int) := by simp [gcdI, ha, hb]
theorem gcdI_out1 {a b : Int} (ha : inB a (-1000000) 1000000 = false) : gcdI a b = 0 := by simp [gcdI, ha]
theorem gcdI_out2 {a b : Int} (hb : inB b (-1000000) 1000000 = false) : gcdI a b = 0 := by simp [gcdI, hb]

set_option maxHeartbeats 400000 in
theorem implGcd_any (a b : Int) (w : World) :
    Calls Try.prog 17 #[.int .i64 a, .int .i64 b] w fun e w' => e = .returned (.int .i64 (gcdI a b)) ∧ Quiet w w' := by
  cases ha : inB a (-1000000) 1000000
  · have Hr : Hid (gcdI a b = 0) := gcdI_out1 ha
    go_enter Try.func17, Try.ntmps17
    go_wp2_with (go_at_call 36; refine (withinMillion_any _ _).mono ?_; rintro e w' ⟨rfl, rfl⟩)
    go_ret
    exact ⟨by rw [Hr.out]; rfl, Quiet.refl _⟩
  · cases hb : inB b (-1000000) 1000000
    · have Hr : Hid (gcdI a b = 0) := gcdI_out2 hb
      go_enter Try.func17, Try.ntmps17
      go_wp2_with (go_at_call 36; refine (withinMillion_any _ _).mono ?_; rintro e w' ⟨rfl, rfl⟩)
      go_ret
      exact ⟨by rw [Hr.out]; rfl, Quiet.refl _⟩
    · have Hr : Hid (gcdI a b = (Nat.gcd a.natAbs b.natAbs : Int)) := gcdI_in ha hb
      have ia := inB_iff.1 ha
      have ib := inB_iff.1 hb
      obtain ⟨ia1, ia2⟩ := ia
      obtain ⟨ib1, ib2⟩ := ib
      go_enter Try.func17, Try.ntmps17
      go_wp2_with (first
        | (go_at_call 36; refine (withinMillion_any _ _).mono ?_; rintro e w' ⟨rfl, rfl⟩)
        | (go_at_call 38; refine (withoutSign_any _ _ ?_ ?_).mono ?_; assumption; assumption; rintro e w' ⟨rfl, rfl⟩)
        | (go_at_call 37; refine (commonDivisor_any _ _ _ ?_ ?_).mono ?_; omega; omega; rintro e w' ⟨rfl, n, rfl⟩))
      go_ret
      exact ⟨by rw [Hr.out]; rfl, ⟨n, rfl⟩⟩


theorem max_neg' (a : Int) : max a (-a) = (a.natAbs : Int) := by omega

set_option maxHeartbeats 400000 in
theorem specGcd_any (a b : Int) (w : World) :
    Calls Try.prog 25 #[.int .i64 a, .int .i64 b] w fun e w' => e = .returned (.int .i64 (gcdI a b)) ∧ Quiet w w' := by
  cases ha : inB a (-1000000) 1000000
  · have Hr : Hid (gcdI a b = 0) := gcdI_out1 ha
    go_enter Try.func25, Try.ntmps25
    go_wp2_with (go_at_call 42; refine (l1In_any _ _ _ _).mono ?_; rintro e w' ⟨rfl, rfl⟩)
    go_ret
    exact ⟨by rw [Hr.out]; rfl, Quiet.refl _⟩
  · cases hb : inB b (-1000000) 1000000
    · have Hr : Hid (gcdI a b = 0) := gcdI_out2 hb
      go_enter Try.func25, Try.ntmps25
      go_wp2_with (go_at_call 42; refine (l1In_any _ _ _ _).mono ?_; rintro e w' ⟨rfl, rfl⟩)
      go_ret
      exact ⟨by rw [Hr.out]; rfl, Quiet.refl _⟩
    · have Hr : Hid (gcdI a b = (Nat.gcd a.natAbs b.natAbs : Int)) := gcdI_in ha hb
      have ia := inB_iff.1 ha
      have ib := inB_iff.1 hb
      obtain ⟨ia1, ia2⟩ := ia
      obtain ⟨ib1, ib2⟩ := ib
      go_enter Try.func25, Try.ntmps25
      go_wp2_with (first
        | (go_at_call 42; refine (l1In_any _ _ _ _).mono ?_; rintro e w' ⟨rfl, rfl⟩)
        | (go_at_call 45; refine (l1Max_any _ _ _).mono ?_; rintro e w' ⟨rfl, rfl⟩; simp only [max_neg'])
        | (go_at_call 35; refine (l1Gcd_any _ _ _ ?_ ?_).mono ?_; omega; omega; rintro e w' ⟨rfl, n, rfl⟩))
      go_ret
      exact ⟨by rw [Hr.out]; rfl, ⟨n, rfl⟩⟩

/-- The law's walk. -/
theorem exactGcd_walk (a b : Int) (w : World) :
    Calls Try.prog 8 #[.int .i64 a, .int .i64 b] w fun e w' => e = .returned (.bool true) ∧ Keeps w w' := by
  generalize hg : gcdI a b = g
  have Hg : Hid (gcdI a b = g) := hg
  clear hg
  have hne : (g != g) = false := by simp
  go_enter Try.func8, Try.ntmps8
  go_wp2_with (first
    | (go_at_call 25; refine (specGcd_any _ _ _).mono ?_; rintro e w' ⟨rfl, n, rfl⟩; rw [Hg.out])
    | (go_at_call 17; refine (implGcd_any _ _ _).mono ?_; rintro e w' ⟨rfl, m, rfl⟩; rw [Hg.out]))
  go_ret
  exact ⟨rfl, (Keeps.refl _).drewN _⟩

end Go.Proofs.Ytdfhoflmjcdkkaa
