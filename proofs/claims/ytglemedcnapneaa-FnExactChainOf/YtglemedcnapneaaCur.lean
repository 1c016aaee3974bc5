/-
  What is drawn: contracts of the model's cursor over a text's bytes. Which numbers are drawn is not said: only how far they go, and that nothing but the cursor turns.
-/
import Derived.Test.YtglemedcnapneaaBut
namespace Go.Proofs.Ytglemedcnapneaa
open Go.RowKit

theorem i64_and255 (n : Int) : bits .and .i64 n 255 = n % 256 := by
  have h : (BitVec.ofInt 64 255).toNat = 2 ^ 8 - 1 := by decide
  have key : (BitVec.ofInt 64 n &&& BitVec.ofInt 64 255).toNat = (n % ((2 ^ 64 : Nat) : Int)).toNat % 2 ^ 8 := by
    rw [BitVec.toNat_and, BitVec.toNat_ofInt, h, Nat.and_two_pow_sub_one_eq_mod]
  show IntKind.i64.wrap ((BitVec.ofInt 64 n &&& BitVec.ofInt 64 255).toNat : Nat) = n % 256
  rw [key, IntKind.wrap_i64]
  omega
theorem i64_and30 (n : Int) : bits .and .i64 n 1073741823 = n % 1073741824 := by
  have h : (BitVec.ofInt 64 1073741823).toNat = 2 ^ 30 - 1 := by decide
  have key : (BitVec.ofInt 64 n &&& BitVec.ofInt 64 1073741823).toNat = (n % ((2 ^ 64 : Nat) : Int)).toNat % 2 ^ 30 := by
    rw [BitVec.toNat_and, BitVec.toNat_ofInt, h, Nat.and_two_pow_sub_one_eq_mod]
  show IntKind.i64.wrap ((BitVec.ofInt 64 n &&& BitVec.ofInt 64 1073741823).toNat : Nat) = n % 1073741824
  rw [key, IntKind.wrap_i64]
  omega

/-- Bytes that lie below block g. -/
def Bytes (g : Nat) (w : World) (a : Option Addr) (n : Nat) : Prop :=
  n = 0 ∨ ∃ b off, a = some ⟨b, off, none⟩ ∧ b < g ∧ ∀ j, j < n → ∃ z : Int, 0 ≤ z ∧ z ≤ 255 ∧ w.cell? ⟨b, off + j, none⟩ = some (.int .u8 z)
theorem Bytes.but {g : Nat} {w w' : World} {a : Option Addr} {n : Nat} (h : Bytes g w a n) (k : KeepsBut g w w') : Bytes g w' a n := by
  rcases h with h | ⟨b, off, rfl, hg, h⟩
  · exact .inl h
  · exact .inr ⟨b, off, rfl, hg, fun j hj => by obtain ⟨z, h0, h1, hc⟩ := h j hj; exact ⟨z, h0, h1, KeepsBut.has (by omega) hc _ k⟩⟩

/-- The cursor lies in block g. -/
def Cur (w : World) (g : Nat) : Prop :=
  ∃ (a : Option Addr) (n cap i : Nat) (h : Int), w.cell? ⟨g, 0, none⟩ = some (.slice a n cap) ∧ w.cell? ⟨g, 1, none⟩ = some (.int .i64 i) ∧ w.cell? ⟨g, 2, none⟩ = some (.int .i64 h) ∧
    w.frozen? ⟨g, 1, none⟩ = false ∧ w.frozen? ⟨g, 2, none⟩ = false ∧ i ≤ n ∧ n ≤ 1048576 ∧ Bytes g w a n

theorem drewN_cell (w : World) (n : Nat) (a : Addr) : (w.drewN n).cell? a = w.cell? a := rfl
theorem drewN_frozen (w : World) (n : Nat) (a : Addr) : (w.drewN n).frozen? a = w.frozen? a := rfl
theorem Bytes.drewN {g : Nat} {w : World} {a : Option Addr} {n : Nat} (h : Bytes g w a n) (m : Nat) : Bytes g (w.drewN m) a n := h.but ((KeepsBut.refl g w).drewN m)
theorem Cur.drewN {w : World} {g : Nat} (h : Cur w g) (m : Nat) : Cur (w.drewN m) g := by
  obtain ⟨a, n, cap, i, h, c0, c1, c2, f1, f2, hi, hn, hb⟩ := h
  exact ⟨a, n, cap, i, h, c0, c1, c2, f1, f2, hi, hn, hb.drewN m⟩
theorem cur_new {w : World} {a : Option Addr} {n cap : Nat} {h : Int} (hn : n ≤ 1048576) (hb : Bytes w.heap.size w a n) (t : TypeId) : Cur (w.alloc (.cells #[.slice a n cap, .int .i64 0, .int .i64 h] t)) w.heap.size :=
  ⟨a, n, cap, 0, h, by simp [go_sem], by simp [go_sem], by simp [go_sem], by simp [go_sem], by simp [go_sem], Nat.zero_le _, hn, hb.but ((KeepsBut.refl _ w).alloc _)⟩
theorem cur_stay {w : World} {g : Nat} {a : Option Addr} {n cap i : Nat} {h : Int} (c0 : w.cell? ⟨g, 0, none⟩ = some (.slice a n cap)) (c1 : w.cell? ⟨g, 1, none⟩ = some (.int .i64 i)) (c2 : w.cell? ⟨g, 2, none⟩ = some (.int .i64 h))
    (f1 : w.frozen? ⟨g, 1, none⟩ = false) (f2 : w.frozen? ⟨g, 2, none⟩ = false) (hi : i ≤ n) (hn : n ≤ 1048576) (hb : Bytes g w a n) (h' : Int) (m : Nat) : Cur ((w.setCell ⟨g, 2, none⟩ (.int .i64 h')).drewN m) g :=
  ⟨a, n, cap, i, h', by rw [drewN_cell, setCell_other (by omega), c0], by rw [drewN_cell, setCell_other (by omega), c1], by rw [drewN_cell, setCell_same c2], by rw [drewN_frozen]; simp [f1], by rw [drewN_frozen]; simp [f2], hi, hn,
    hb.but (((KeepsBut.refl g w).setCell _ _).drewN _)⟩
theorem cur_go {w : World} {g : Nat} (hc : Cur w g) {a : Option Addr} {n cap i : Nat} (c0 : w.cell? ⟨g, 0, none⟩ = some (.slice a n cap)) (c1 : w.cell? ⟨g, 1, none⟩ = some (.int .i64 i)) (hi : i < n) : Cur (w.setCell ⟨g, 1, none⟩ (.int .i64 ((i : Int) + 1))) g := by
  obtain ⟨a', n', cap', i', h, d0, d1, d2, f1, f2, _, hn, hb⟩ := hc
  rw [c0] at d0
  rw [c1] at d1
  simp only [Option.some.injEq, Value.slice.injEq, Value.int.injEq, true_and] at d0 d1
  obtain ⟨rfl, rfl, rfl⟩ := d0
  exact ⟨a, n, cap, i + 1, h, by rw [setCell_other (by omega), c0], by rw [setCell_same c1]; rfl, by rw [setCell_other (by omega), d2], by simp [f1], by simp [f2], by omega, hn, hb.but ((KeepsBut.refl g w).setCell _ _)⟩

set_option maxHeartbeats 1000000 in
theorem l1Byte_any (g : Nat) (w : World) (hc : Cur w g) :
    Calls Try.prog 72 #[.pointer (some ⟨g, 0, none⟩)] w fun e w' => ∃ x : Int, e = .returned (.int .i64 x) ∧ 0 ≤ x ∧ x ≤ 255 ∧ Cur w' g ∧ KeepsBut g w w' := by
  obtain ⟨a, n, cap, i, h, c0, c1, c2, f1, f2, hi, hn, hb⟩ := hc
  by_cases hlt : i < n
  · rcases hb with hb | ⟨b, off, rfl, hg, hb⟩
    · omega
    obtain ⟨z, hz0, hz1, hcz⟩ := hb i hlt
    have hgn : g ≠ b := by omega
    have hgn' : b ≠ g := by omega
    have hlt' : (i : Int) < (n : Int) := by omega
    go_enter Try.func72, Try.ntmps72
    go_wp2
    generalize wrap64 (wrap64 (h * 6364136223846793005) + 1442695040888963407) = h'
    go_quiet (fail)
    go_wp2
    simp only [i64_and255]
    generalize bits BinOp.xor IntKind.i64 (h' / 8589934592) (h' / 35184372088832) = X
    have hx0 : 0 ≤ X % 256 := by omega
    have hx1 : X % 256 ≤ 255 := by omega
    generalize X % 256 = x at *
    go_quiet (fail)
    go_wp2
    go_quiet (fail)
    go_wp2
    simp only [i64_and255]
    go_ret
    refine ⟨(x + z) % 256, rfl, by omega, by omega, cur_go (cur_stay c0 c1 c2 f1 f2 hi hn (.inr ⟨b, off, rfl, hg, hb⟩) _ _) (a := some ⟨b, off, none⟩) (n := n) (cap := cap) ?_ ?_ hlt, (((KeepsBut.refl g w).setCell _ _).drewN _).setCell _ _⟩
    · rw [drewN_cell, setCell_other (by omega), c0]
    · rw [drewN_cell, setCell_other (by omega), c1]
  · go_enter Try.func72, Try.ntmps72
    go_wp2
    generalize wrap64 (wrap64 (h * 6364136223846793005) + 1442695040888963407) = h'
    go_quiet (fail)
    go_wp2
    simp only [i64_and255]
    generalize bits BinOp.xor IntKind.i64 (h' / 8589934592) (h' / 35184372088832) = X
    have hx0 : 0 ≤ X % 256 := by omega
    have hx1 : X % 256 ≤ 255 := by omega
    generalize X % 256 = x at *
    go_quiet (fail)
    go_wp2
    go_ret
    exact ⟨x, rfl, hx0, hx1, (cur_stay c0 c1 c2 f1 f2 hi hn hb _ _).drewN _, (((KeepsBut.refl g w).setCell _ _).drewN _).drewN _⟩

set_option maxHeartbeats 1000000 in
theorem l1Below_any (g : Nat) (n : Int) (w : World) (hc : Cur w g) (h1 : 1 ≤ n) (h2 : n ≤ 256) :
    Calls Try.prog 63 #[.pointer (some ⟨g, 0, none⟩), .int .i64 n] w fun e w' => ∃ x : Int, e = .returned (.int .i64 x) ∧ 0 ≤ x ∧ x < n ∧ Cur w' g ∧ KeepsBut g w w' := by
  go_enter Try.func63, Try.ntmps63
  go_wp2_with (go_at_call 72; refine (l1Byte_any g _ hc).mono ?_; rintro e w1 ⟨x, rfl, hx0, hx1, hc1, k1⟩)
  go_ret
  exact ⟨x % n, rfl, Int.emod_nonneg _ (by omega), Int.emod_lt_of_pos _ (by omega), hc1, k1⟩

theorem l1Below_big (g : Nat) (n : Int) (w : World) (hc : Cur w g) (h1 : 256 < n) (h2 : n ≤ 4611686018427387904) :
    Calls Try.prog 63 #[.pointer (some ⟨g, 0, none⟩), .int .i64 n] w fun e w' => ∃ x : Int, e = .returned (.int .i64 x) ∧ 0 ≤ x ∧ x < n ∧ Cur w' g ∧ KeepsBut g w w' := by
  go_enter Try.func63, Try.ntmps63
  go_wp2_with fail
  refine (l1Byte_any g _ hc).mono ?_
  rintro e w1 ⟨x1, rfl, a1, b1, hc1, k1⟩
  go_wp2_with fail
  refine (l1Byte_any g _ hc1).mono ?_
  rintro e w2 ⟨x2, rfl, a2, b2, hc2, k2⟩
  go_wp2_with fail
  refine (l1Byte_any g _ hc2).mono ?_
  rintro e w3 ⟨x3, rfl, a3, b3, hc3, k3⟩
  go_wp2_with fail
  refine (l1Byte_any g _ hc3).mono ?_
  rintro e w4 ⟨x4, rfl, a4, b4, hc4, k4⟩
  go_wp2
  go_ret
  exact ⟨(x1 * 16777216 + x2 * 65536 + x3 * 256 + x4) % n, rfl, Int.emod_nonneg _ (by omega), Int.emod_lt_of_pos _ (by omega), hc4, ((k1.trans k2).trans k3).trans k4⟩

/-- One of the ints of a list, of which one property is known. -/
theorem l1PickInt_any (p : Int → Prop) (g b off cap : Nat) (zs : List Int) (w : World) (hc : Cur w g) (hg : b ≠ g) (h1 : 1 ≤ zs.length) (h2 : zs.length ≤ 256)
    (hz : ∀ j, j < zs.length → w.cell? ⟨b, off + j, none⟩ = some (.int .i64 (zs.getD j 0))) (hp : ∀ z ∈ zs, p z) :
    Calls Try.prog 64 #[.pointer (some ⟨g, 0, none⟩), .slice (some ⟨b, off, none⟩) zs.length cap] w fun e w' => ∃ x : Int, e = .returned (.int .i64 x) ∧ p x ∧ Cur w' g ∧ KeepsBut g w w' := by
  generalize hn : zs.length = n at *
  have Hn : Hid (zs.length = n) := hn
  clear hn
  go_enter Try.func64, Try.ntmps64
  go_wp2_with fail
  refine (l1Below_any g _ _ hc (by omega) (by omega)).mono ?_
  rintro e w1 ⟨x, rfl, hx0, hx1, hc1, k1⟩
  obtain ⟨j, rfl⟩ := Int.eq_ofNat_of_zero_le hx0
  have hj : j < n := by omega
  have r := KeepsBut.has hg (hz j hj) w1 k1
  generalize hv : zs.getD j 0 = v at r
  have Hv : Hid (zs.getD j 0 = v) := hv
  clear hv hz
  go_wp2
  go_ret
  refine ⟨v, rfl, ?_, hc1, k1⟩
  rw [← Hv.out]
  have hj' : j < zs.length := by rw [Hn.out]; exact hj
  have e : zs.getD j 0 = zs[j] := by simp [hj']
  rw [e]
  exact hp _ (List.getElem_mem hj')

theorem Cur.lt {w : World} {g : Nat} (h : Cur w g) : g < w.heap.size := by
  obtain ⟨_, _, _, _, _, c0, _⟩ := h
  exact World.block_lt_of_cell? w _ c0
theorem Cur.keeps {w w' : World} {g : Nat} (h : Cur w g) (k : Keeps w w') : Cur w' g := by
  have hl := h.lt
  obtain ⟨a, n, cap, i, h, c0, c1, c2, f1, f2, hi, hn, hb⟩ := h
  exact ⟨a, n, cap, i, h, Keeps.has c0 _ k, Keeps.has c1 _ k, Keeps.has c2 _ k, (k.frozens g 1 hl).trans f1, (k.frozens g 2 hl).trans f2, hi, hn, hb.but (.of k)⟩

theorem Cur.setNew {w : World} {g : Nat} (h : Cur w g) {b : Nat} (hb : g < b) (o : Nat) (v : Value) : Cur (w.setCell ⟨b, o, none⟩ v) g := by
  obtain ⟨a, n, cap, i, h, c0, c1, c2, f1, f2, hi, hn, hB⟩ := h
  refine ⟨a, n, cap, i, h, by rw [setCell_other (by omega), c0], by rw [setCell_other (by omega), c1], by rw [setCell_other (by omega), c2], by simp [f1], by simp [f2], hi, hn, ?_⟩
  rcases hB with hB | ⟨b', off, rfl, hg, hB⟩
  · exact .inl hB
  · exact .inr ⟨b', off, rfl, hg, fun j hj => by obtain ⟨z, h0, h1, hc⟩ := hB j hj; exact ⟨z, h0, h1, by rw [setCell_other (by omega), hc]⟩⟩

/-- One of the ints of a list that is written out. -/
theorem l1PickInt_new (p : Int → Prop) (g : Nat) (zs : List Int) (C : Array Value) (t : TypeId) (n cap B : Nat) (w : World) (hB : w.heap.size = B) (hc : Cur w g) (hn : zs.length = n) (h1 : 1 ≤ n) (h2 : n ≤ 256) (hC : C = (zs.map (Value.int .i64)).toArray) (hp : ∀ z ∈ zs, p z) :
    Calls Try.prog 64 #[.pointer (some ⟨g, 0, none⟩), .slice (some ⟨B, 0, none⟩) n cap] (w.alloc (.cells C t)) fun e w' => ∃ x : Int, e = .returned (.int .i64 x) ∧ p x ∧ Cur w' g ∧ KeepsBut g w w' := by
  have hl := hc.lt
  subst hC
  subst hn
  subst hB
  refine (l1PickInt_any p g w.heap.size 0 cap zs _ (hc.keeps ((Keeps.refl _).alloc _)) (by omega) h1 h2 ?_ hp).mono ?_
  · intro j hj
    simp [go_sem, hj]
  · rintro e w' ⟨x, rfl, hx, hc', k⟩
    exact ⟨x, rfl, hx, hc', ((KeepsBut.refl g w).alloc _).trans k⟩

set_option maxHeartbeats 1000000 in
theorem l1New_any (a : Option Addr) (n cap : Nat) (w : World) (hn : n ≤ 1048576) (hb : ∀ g, w.heap.size ≤ g → Bytes g w a n) :
    Calls Try.prog 61 #[.slice a n cap] w fun e w' => ∃ g, e = .returned (.pointer (some ⟨g, 0, none⟩)) ∧ w.heap.size ≤ g ∧ Cur w' g ∧ Keeps w w' := by
  have hb0 := hb w.heap.size (Nat.le_refl _)
  have HB : Hid (Bytes w.heap.size w a n) := hb0
  clear hb
  go_enter Try.func61, Try.ntmps61
  go_wp2
  go_loop [3, 4] (fun s i => ∃ k : Nat, k ≤ n ∧ i = .int .i64 k ∧ ∃ h : Int, s = .int .i64 h ∧ 0 ≤ h ∧ h ≤ 1073741823) (fun _ i => n - (intOf i).toNat)
  case atStart => exact ⟨0, Nat.zero_le _, rfl, _, rfl, by omega, by omega⟩
  case round =>
    obtain ⟨k, hk, rfl, h, rfl, h0, h1⟩ := hrel
    by_cases hlt : k < n
    · rcases hb0 with hb0 | ⟨b, off, rfl, hg, hz⟩
      · omega
      obtain ⟨z, hz0, hz1, hcz⟩ := hz k hlt
      have hlt' : (k : Int) < (n : Int) := by omega
      by_cases h4 : k < 4000
      · have h4' : (k : Int) < 4000 := by omega
        go_wp2
        simp only [i64_and30]
        go_round
        case rel => exact ⟨k + 1, by omega, by go_num, _, rfl, by omega, by omega⟩
        case measure => simp only [intOf]; omega
      · have hd : decide ((k : Int) < 4000) = false := by simp; omega
        go_wp2
        go_ret
        exact ⟨w.heap.size, rfl, Nat.le_refl _, cur_new hn HB.out _, (Keeps.refl _).alloc _⟩
    · have hd : decide ((k : Int) < (n : Int)) = false := by simp; omega
      go_wp2
      go_ret
      exact ⟨w.heap.size, rfl, Nat.le_refl _, cur_new hn HB.out _, (Keeps.refl _).alloc _⟩

theorem big_any (a : Option Addr) (n cap : Nat) (w : World) (_hn : n ≤ maxLen) :
    Calls Try.prog 33 #[.slice a n cap] w fun e w' => e = .returned (.bool (decide (1048576 < (n : Int)))) ∧ w' = w := by
  unfold maxLen at _hn
  go_enter Try.func33, Try.ntmps33
  go_wp2
  go_ret
  exact ⟨rfl, rfl⟩
end Go.Proofs.Ytglemedcnapneaa
