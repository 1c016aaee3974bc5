/-
  The program's count of turns, piece by piece: marks are put, summed up and emptied.
-/
import Derived.Test.YthpdlbcdbncnhaaTraceS
import Derived.Test.YthpdlbcdbncnhaaGBase1
import Derived.Lib.SliceRun
namespace Go.Proofs.Ythpdlbcdbncnhaa
open Go.RowKit
attribute [local go_sem] Keeps.refl Keeps.alloc Keeps.drew Keeps.drewN

/-- The marks of a piece's first k turns, as 32 cells. -/
def markAt (f : Tn → Bool) (ys : List Tn) (j : Nat) : Int := if ((ys[j]?).map f).getD false then 1 else 0
def marksC (f : Tn → Bool) (ys : List Tn) (k : Nat) : Array Value := ((List.range 32).map fun j => Value.int .i64 (if j < k then markAt f ys j else 0)).toArray
theorem marksC_size (f : Tn → Bool) (ys : List Tn) (k : Nat) : (marksC f ys k).size = 32 := by simp [marksC]
theorem marksC_at (f : Tn → Bool) (ys : List Tn) (k : Nat) {j : Nat} (hj : j < 32) : (marksC f ys k)[j]? = some (.int .i64 (if j < k then markAt f ys j else 0)) := by simp [marksC, hj]
theorem marksC_zero (f : Tn → Bool) (ys : List Tn) : marksC f ys 0 = (List.replicate 32 (Value.int .i64 0)).toArray := by
  unfold marksC
  congr 1
theorem marksC_put (f : Tn → Bool) (ys : List Tn) (k : Nat) (y : Tn) (hk : k < 32) (h : ys[k]? = some y) : marksC f ys (k + 1) = (marksC f ys k).setIfInBounds k (.int .i64 (if f y then 1 else 0)) := by
  apply Array.ext_getElem?
  intro j
  by_cases hj : j < 32
  · rw [marksC_at _ _ _ hj]
    by_cases e : k = j
    · subst e
      rw [Array.getElem?_setIfInBounds_self_of_lt (by rw [marksC_size]; exact hk), if_pos (Nat.lt_succ_self k)]
      simp [markAt, h]
    · rw [Array.getElem?_setIfInBounds_ne e, marksC_at _ _ _ hj]
      by_cases h1 : j < k
      · rw [if_pos h1, if_pos (by omega)]
      · rw [if_neg h1, if_neg (by omega)]
  · rw [Array.getElem?_eq_none (by rw [marksC_size]; omega), Array.getElem?_eq_none (by simp [marksC_size]; omega)]
theorem marksC_skip (f : Tn → Bool) (ys : List Tn) (k : Nat) (y : Tn) (hk : k < 32) (h : ys[k]? = some y) (hf : f y = false) : marksC f ys (k + 1) = marksC f ys k := by
  rw [marksC_put f ys k y hk h, hf]
  apply Array.ext_getElem?
  intro j
  by_cases e : k = j
  · subst e
    rw [Array.getElem?_setIfInBounds_self_of_lt (by rw [marksC_size]; exact hk), marksC_at _ _ _ hk, if_neg (Nat.lt_irrefl k)]
    rfl
  · rw [Array.getElem?_setIfInBounds_ne e]
/-- The sum of the first k marks. -/
theorem markAt_sum (f : Tn → Bool) (ys : List Tn) (k : Nat) : ((ys.take (k + 1)).countP f : Int) = (ys.take k).countP f + markAt f ys k := by
  unfold markAt
  cases h : ys[k]? with
  | none =>
    have h1 : ys.length ≤ k := List.getElem?_eq_none_iff.1 h
    rw [List.take_of_length_le (by omega), List.take_of_length_le h1]
    simp
  | some y =>
    rw [countP_step f h]
    cases hf : f y <;> simp [hf]

theorem setCells_putC (b : Nat) : ∀ (L : List Value) (k : Nat) (w : World), w.setCells b k L = putC w b k L
  | [], _, _ => rfl
  | v :: r, k, w => setCells_putC b r (k + 1) (w.setCell ⟨b, k, none⟩ v)
theorem KeepsBut.putM {b : Nat} : ∀ (L : List Value) (k : Nat) {a w : World}, KeepsBut b a w → KeepsBut b a (Go.Proofs.Ythpdlbcdbncnhaa.putC w b k L)
  | [], _, _, _, h => h
  | v :: r, k, _, _, h => KeepsBut.putM r (k + 1) (h.setCell k v)
theorem Lies.but {α : Type} {sz : Nat} {c : α → Array Value} {g : Nat} {w w' : World} {b off : Nat} {xs : List α} (h : Lies sz c w (some ⟨b, off, none⟩) xs) (k : KeepsBut g w w') (hg : b ≠ g) : Lies sz c w' (some ⟨b, off, none⟩) xs := by
  rcases h with h | ⟨b1, off1, e, hb, h⟩
  · exact .inl h
  · obtain ⟨rfl, rfl⟩ : b = b1 ∧ off = off1 := by simpa using e
    exact .inr ⟨b, off, rfl, Nat.lt_of_lt_of_le hb k.size, fun i x hx j hj => (k.cells _ _ hb hg).trans (h i x hx j hj)⟩

set_option maxRecDepth 100000 in
theorem piecesIn_any (a : Option Addr) (n cap : Nat) (w : World) (hl : n ≤ 1048576) :
    Calls Try.prog 21 #[.slice a n cap] w fun e w' => e = .returned (.int .i64 (((n + 31) / 32 : Nat) : Int)) ∧ w' = w := by
  have e1 : ((n : Int) + 32 - 1).tdiv 32 = (((n + 31) / 32 : Nat) : Int) := by
    rw [Int.tdiv_eq_ediv_of_nonneg (by omega)]; omega
  go_enter Try.func21, Try.ntmps21
  go_wp2
  go_ret
  exact ⟨rfl, rfl⟩
/-- As long as a piece is. -/
def pieceN (n k : Nat) : Nat := min (k * 32 + 32) n - k * 32
set_option maxRecDepth 100000 in
theorem pieceAt_any (b off n cap k : Nat) (w : World) (hl : n ≤ 1048576) (hk : k * 32 < n) (hc : n ≤ cap) :
    Calls Try.prog 23 #[.slice (some ⟨b, off, none⟩) n cap, .int .i64 k] w fun e w' => e = .returned (.slice (some ⟨b, off + k * 32 * 3, none⟩) (pieceN n k) (pieceN n k)) ∧ w' = w := by
  unfold pieceN
  by_cases h : k * 32 + 32 ≤ n
  · rw [Nat.min_eq_left h]
    go_enter Try.func23, Try.ntmps23
    go_wp2
    go_ret
    exact ⟨rfl, rfl⟩
  · rw [Nat.min_eq_right (by omega)]
    go_enter Try.func23, Try.ntmps23
    go_wp2
    go_ret
    exact ⟨rfl, rfl⟩
set_option maxRecDepth 100000 in
set_option maxHeartbeats 1000000 in
theorem marksSum_any (mb : Nat) (ys : List Tn) (f : Tn → Bool) (w : World) (h32 : ys.length ≤ 32) (B : Blk w mb (marksC f ys ys.length)) :
    Calls Try.prog 24 #[.pointer (some ⟨mb, 0, none⟩)] w fun e w' => e = .returned (.int .i64 (ys.countP f)) ∧ Keeps w w' := by
  have HC : Hid (∀ k, k < 32 → ∀ w', Keeps w w' → w'.cell? ⟨mb, k, none⟩ = some (.int .i64 (markAt f ys k))) := fun k hk w' kw => by
    refine ((B.keeps kw).cells k).trans ?_
    rw [marksC_at f ys _ hk]
    by_cases h : k < ys.length
    · rw [if_pos h]
    · rw [if_neg h]
      unfold markAt
      rw [List.getElem?_eq_none (by omega)]
      rfl
  clear B
  go_enter Try.func24, Try.ntmps24
  go_wp2
  go_loopw [3, 5] (fun c i wr => ∃ k q : Nat, k ≤ 32 ∧ q ≤ k ∧ i = .int .i64 k ∧ c = .int .i64 q ∧ Hid (q = (ys.take k).countP f) ∧ Keeps w wr) (fun _ i _ => 32 - (intOf i).toNat)
  case atStart => exact ⟨0, 0, Nat.zero_le _, Nat.zero_le _, rfl, rfl, by show _ = _; simp, Keeps.refl _⟩
  case round =>
    obtain ⟨k, q, hk, hq, rfl, rfl, HQ, hK⟩ := hrel
    by_cases hlt : k < 32
    · have hlt' : (k : Int) < 32 := by omega
      have hc := HC.out k hlt
      have H1 : Hid (((ys.take (k + 1)).countP f : Int) = q + markAt f ys k) := by show _ = _; rw [markAt_sum, HQ.out]
      have hm : 0 ≤ markAt f ys k ∧ markAt f ys k ≤ 1 := by unfold markAt; split <;> omega
      obtain ⟨m, Hm⟩ : ∃ m, Hid (markAt f ys k = m) := ⟨_, rfl⟩
      rw [Hm.out] at hc hm H1
      go_wp2
      refine ⟨⟨k + 1, (ys.take (k + 1)).countP f, by omega, countP_le_take _ _ _, by go_num, ?_, rfl, by assumption⟩, by simp only [intOf]; omega⟩
      rw [H1.out]
    · have hlt' : decide ((k : Int) < 32) = false := by simp; omega
      have HE : Hid (ys.countP f = q) := by
        show _ = _
        rw [HQ.out, List.take_of_length_le (by omega)]
      go_wp2
      go_ret
      exact ⟨by rw [HE.out]; rfl, hK⟩
set_option maxRecDepth 100000 in
theorem marksEmpty_any (mb : Nat) (ys zs : List Tn) (f : Tn → Bool) (k : Nat) (w : World) (B : Blk w mb (marksC f ys k)) :
    Calls Try.prog 25 #[.pointer (some ⟨mb, 0, none⟩)] w fun e w' => e = .returned (.tuple #[]) ∧ Blk w' mb (marksC f zs 0) ∧ KeepsBut mb w w' := by
  have hv : ∀ w : World, (zeroValue 3).run Try.prog w = .ok (.int .i64 0) w := fun w => by kernel_rfl
  have hcl : ∀ ty, (Builtin.clear_ #[55] ty #[.slice (some ⟨mb, 0, none⟩) 32 32]).run Try.prog w = .ok (.tuple #[]) (putC w mb 0 (List.replicate 32 (.int .i64 0))) := fun ty => by
    rw [← setCells_putC]
    refine Go.Lib.run_clear_slice w 55 3 ty (.int .i64 0) Try.underlying55 hv rfl rfl mb 0 32 32 (by omega) (fun j hj => ?_) (fun j hj => ?_)
    · rw [Nat.zero_add, B.cells j, marksC_at f ys k hj]; rfl
    · exact B.frozens _
  have HB : Hid (Blk (putC w mb 0 (List.replicate 32 (.int .i64 0))) mb (marksC f zs 0)) := by
    show Blk _ _ _
    rw [marksC_zero]
    exact B.putC _ (by rw [marksC_size]; simp)
  have HK : Hid (KeepsBut mb w (putC w mb 0 (List.replicate 32 (.int .i64 0)))) := KeepsBut.putM _ _ (KeepsBut.refl _ _)
  clear B
  generalize putC w mb 0 (List.replicate 32 (.int .i64 0)) = X at *
  go_enter Try.func25, Try.ntmps25
  go_wp2
  go_end0
  exact ⟨rfl, HB.out, HK.out⟩

theorem Lies.takes {α : Type} {sz : Nat} {c : α → Array Value} {w : World} {a : Option Addr} {xs : List α} (h : Lies sz c w a xs) (k : Nat) : Lies sz c w a (xs.take k) := by
  rcases h with rfl | ⟨b, off, rfl, hb, h⟩
  · exact .inl (by simp)
  · refine .inr ⟨b, off, rfl, hb, fun i x hx => h i x ?_⟩
    rw [List.getElem?_take] at hx
    split at hx
    · exact hx
    · simp at hx
theorem Lies.drops {α : Type} {sz : Nat} {c : α → Array Value} {w : World} {b off : Nat} {xs : List α} (h : Lies sz c w (some ⟨b, off, none⟩) xs) (f : Nat) : Lies sz c w (some ⟨b, off + f * sz, none⟩) (xs.drop f) := by
  rcases h with h | ⟨b', off', e, hb, h⟩
  · exact .inl (by rw [h]; simp)
  · simp only [Option.some.injEq, Addr.mk.injEq] at e
    obtain ⟨rfl, rfl, -⟩ := e
    refine .inr ⟨b, _, rfl, hb, fun i x hi k hk => ?_⟩
    rw [List.getElem?_drop] at hi
    have := h (f + i) x hi k hk
    rw [Nat.add_mul] at this
    rw [show off + f * sz + i * sz + k = off + (f * sz + i * sz) + k from by omega]
    exact this
/-- The piece k of a list. -/
def pieceL (xs : List Tn) (k : Nat) : List Tn := (xs.drop (k * 32)).take 32
theorem pieceL_length (xs : List Tn) (k : Nat) : (pieceL xs k).length = pieceN xs.length k := by
  unfold pieceL pieceN
  simp
  omega
theorem pieceL_count (f : Tn → Bool) (xs : List Tn) (k : Nat) : (xs.take ((k + 1) * 32)).countP f = (xs.take (k * 32)).countP f + (pieceL xs k).countP f := by
  unfold pieceL
  rw [← List.countP_append, Nat.add_mul, Nat.one_mul, List.take_add]
end Go.Proofs.Ythpdlbcdbncnhaa
