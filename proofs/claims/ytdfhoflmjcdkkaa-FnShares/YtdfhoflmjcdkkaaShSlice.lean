/-
  Lists of parts of time: the law's own helpers: a copy is made, two are held against each other, how long one is.
-/
import Derived.Test.YtdfhoflmjcdkkaaSum
namespace Go.Proofs.Ytdfhoflmjcdkkaa
open Go.RowKit Plain
attribute [local go_sem] Keeps.refl Keeps.alloc Keeps.drew Keeps.drewN

theorem szShareS_any (a : Option Addr) (cap n : Nat) (left : Int) (w : World) (hl : n ≤ maxLen) (h0 : 0 ≤ left) (h1 : left ≤ 1048576) :
    Calls Try.prog 27 #[.slice a n cap, .int .i64 left] w fun e w' => e = .returned (.int .i64 (if (n : Int) ≤ left then left - n else -1)) ∧ w' = w := by
  unfold maxLen at hl
  by_cases h : (n : Int) ≤ left
  · rw [if_pos h]
    go_enter Try.func27, Try.ntmps27
    go_wp2
    go_ret
    exact ⟨rfl, rfl⟩
  · rw [if_neg h]
    go_enter Try.func27, Try.ntmps27
    go_wp2
    go_ret
    exact ⟨rfl, rfl⟩

theorem eqShare_same (q p : Int) (w : World) :
    Calls Try.prog 46 #[sh q p, sh q p] w fun e w' => e = .returned (.bool true) ∧ Keeps w w' := by
  have e1 : (q != q) = false := by simp
  have e2 : (p != p) = false := by simp
  go_enter Try.func46, Try.ntmps46
  go_wp2
  go_ret
  exact ⟨rfl, ((Keeps.refl _).alloc _).alloc _⟩

set_option maxHeartbeats 1000000 in
theorem eqShareS_same (a a' : Option Addr) (cap cap' : Nat) (xs : List (Int × Int)) (w : World) (hl : xs.length ≤ maxLen) (hs : Sh w a xs) (hs' : Sh w a' xs) :
    Calls Try.prog 29 #[.slice a xs.length cap, .slice a' xs.length cap'] w fun e w' => e = .returned (.bool true) ∧ Keeps w w' := by
  unfold maxLen at hl
  generalize hn : xs.length = n at hl
  have Hn : Hid (xs.length = n) := hn
  clear hn
  have hne : ((n : Int) != (n : Int)) = false := by simp
  go_enter Try.func29, Try.ntmps29
  go_wp2
  go_loopw [5] (fun i wr => ∃ k : Nat, k ≤ n ∧ i = .int .i64 k ∧ Keeps w wr) (fun i _ => n - (intOf i).toNat)
  case atStart => exact ⟨0, Nat.zero_le _, rfl, Keeps.refl _⟩
  case round =>
    obtain ⟨k, hk, rfl, hK⟩ := hrel
    by_cases hlt : k < n
    · obtain ⟨b, off, q, p, rfl, e, c0, c1⟩ := hs.at (by rw [Hn.out]; exact hlt)
      obtain ⟨b', off', q', p', rfl, e', c0', c1'⟩ := hs'.at (by rw [Hn.out]; exact hlt)
      rw [e] at e'
      simp only [Prod.mk.injEq] at e'
      obtain ⟨rfl, rfl⟩ := e'
      clear e
      have r0 := Keeps.has c0
      have r1 := Keeps.has c1
      have r0' := Keeps.has c0'
      have r1' := Keeps.has c1'
      have hlt' : (k : Int) < (n : Int) := by omega
      clear c0 c1 c0' c1' hs hs'
      go_wp2
      go_region_held3 (fun w' => Keeps w w') (first | exact Keeps.drew (by assumption) | exact Keeps.trans (by assumption) (by assumption))
        (first
        | (go_at_call 46; refine (eqShare_same _ _ _).mono ?_; rintro e w1 ⟨rfl, hb⟩))
      go_wp2
      exact ⟨⟨k + 1, by omega, by go_num, by assumption⟩, by simp only [intOf]; omega⟩
    · go_wp2
      go_ret
      exact ⟨rfl, hK⟩

/-- What make lays, of elements of whatever size: a new row. -/
theorem run_make_any {P : Program} (t e : TypeId) (z : Value) (size bytes : Nat) (ht : P.underlying t = some (.slice e)) (hinfo : (P.info? e).map (fun i => (i.zero, i.size, i.bytes)) = some (some z, size, bytes))
    (n : Nat) (hbytes : bytes * n ≤ 281474976710656) (h63 : n ≤ 9223372036854775807) :
    ∃ C : Array Value, C.size = n * size ∧ ∀ w : World, (Instr.makeSlice t (.int .i64 (n : Int)) (.int .i64 (n : Int))).run P w = .ok (.slice (some ⟨w.heap.size, 0, none⟩) n n) (w.alloc (.cells C e)) := by
  obtain ⟨i, hi, hzz⟩ := Option.map_eq_some_iff.1 hinfo
  simp only [Prod.mk.injEq] at hzz
  obtain ⟨hz, hs, hb⟩ := hzz
  refine ⟨madeCells z.cells (n * size), size_madeCells _ _, fun w => ?_⟩
  have hb' : (i.bytes : Int) * (n : Int) ≤ 281474976710656 := by
    have h : ((i.bytes * n : Nat) : Int) ≤ 281474976710656 := by rw [hb]; omega
    rwa [Int.natCast_mul] at h
  have hr := run_make (P := P) w t e i z ht hi hz .i64 .i64 n n (by omega) (Int.le_refl _) hb' (by omega)
  simp only [Int.toNat_natCast, hs] at hr
  exact hr
theorem rowIs_new (w : World) (C : Array Value) (t : TypeId) : ∃ f, (w.alloc (.cells C t)).rowIs w.heap.size t C.size f := by
  refine ⟨fun i => C.getD i undef, World.rowIs_alloc w C t _ fun i hi => ?_⟩
  simp [hi]
theorem rowIs_keeps {w w' : World} {b : Nat} {t : TypeId} {n : Nat} {f : Nat → Value} (h : w.rowIs b t n f) (k : Keeps w w') : w'.rowIs b t n f := h.of_block (Below.block k b h.lt)

set_option maxHeartbeats 1000000 in
theorem toShareS_any (a : Option Addr) (cap : Nat) (xs : List (Int × Int)) (w : World) (hl : xs.length ≤ 1048576) (hs : Sh w a xs) :
    Calls Try.prog 28 #[.slice a xs.length cap] w fun e w' => ∃ b, e = .returned (.slice (some ⟨b, 0, none⟩) xs.length xs.length) ∧ Sh w' (some ⟨b, 0, none⟩) xs ∧ w.heap.size ≤ b ∧ Keeps w w' := by
  generalize hn : xs.length = n at hl
  have Hn : Hid (xs.length = n) := hn
  clear hn
  obtain ⟨C, hC, hmk⟩ := run_make_any (P := Try.prog) 24 31 (.agg #[.int .i64 0, .int .i64 0]) 2 16 Try.underlying24 (by kernel_rfl) n (by omega) (by omega)
  obtain ⟨f0, hrow0⟩ := rowIs_new w C 31
  rw [hC] at hrow0
  clear hC
  go_enter Try.func28, Try.ntmps28
  go_wp2
  go_loopw [4] (fun i wr => ∃ k : Nat, k ≤ n ∧ i = .int .i64 k ∧ Keeps w wr ∧ ∃ f, wr.rowIs w.heap.size 31 (n * 2) f ∧ ∀ j, j < k → f (j * 2) = .int .i64 (xs.getD j (0, 0)).1 ∧ f (j * 2 + 1) = .int .i64 (xs.getD j (0, 0)).2) (fun i _ => n - (intOf i).toNat)
  case atStart => exact ⟨0, Nat.zero_le _, rfl, (Keeps.refl _).alloc _, f0, hrow0, fun j hj => by omega⟩
  case round =>
    obtain ⟨k, hk, rfl, hK, f, hrow, hf⟩ := hrel
    clear hmk hrow0
    by_cases hlt : k < n
    · obtain ⟨b, off, q, p, rfl, e, c0, c1⟩ := hs.at (by rw [Hn.out]; exact hlt)
      have E : Hid (xs.getD k (0, 0) = (q, p)) := e
      clear e
      have r0 := Keeps.has c0
      have r1 := Keeps.has c1
      have hlt' : (k : Int) < (n : Int) := by omega
      have s0 := Keeps.has (hrow.cell (i := k * 2) (by omega))
      have s1 := Keeps.has (hrow.cell (i := k * 2 + 1) (by omega))
      have s2 : ∀ w', Keeps wr w' → w'.frozen? ⟨w.heap.size, k * 2, none⟩ = false := fun w' h => (rowIs_keeps hrow h).frozen _
      have s3 : ∀ w', Keeps wr w' → w'.frozen? ⟨w.heap.size, k * 2 + 1, none⟩ = false := fun w' h => (rowIs_keeps hrow h).frozen _
      have HR : Hid (wr.rowIs w.heap.size 31 (n * 2) f) := hrow
      have HF : Hid (∀ j, j < k → f (j * 2) = .int .i64 (xs.getD j (0, 0)).1 ∧ f (j * 2 + 1) = .int .i64 (xs.getD j (0, 0)).2) := hf
      clear c0 c1 hs hrow hf
      go_wp2_with (go_at_call 26; refine (toShare_any _ _ _).mono ?_; rintro e w1 ⟨rfl, hb⟩)
      refine ⟨⟨k + 1, by omega, by go_num, ((hK.trans hb).setCell (by simp) _).setCell (by simp) _, _, ((rowIs_keeps HR.out hb).set _ _).set _ _, ?_⟩, by simp only [intOf]; omega⟩
      intro j hj
      by_cases hjk : j = k
      · subst hjk
        rw [E.out]
        simp
      · have := HF.out j (by omega)
        rw [if_neg (by omega), if_neg (by omega), if_neg (by omega), if_neg (by omega)]
        exact this
    · have e : k = n := by omega
      subst e
      go_wp2
      go_ret
      refine ⟨w.heap.size, rfl, .inr ⟨_, _, rfl, fun i hi => ?_⟩, Nat.le_refl _, hK⟩
      rw [Hn.out] at hi
      obtain ⟨h1, h2⟩ := hf i hi
      have g1 := hrow.cell (i := i * 2) (by omega)
      have g2 := hrow.cell (i := i * 2 + 1) (by omega)
      rw [h1] at g1
      rw [h2] at g2
      simp only [Nat.zero_add]
      exact ⟨g1, g2⟩
end Go.Proofs.Ytdfhoflmjcdkkaa
