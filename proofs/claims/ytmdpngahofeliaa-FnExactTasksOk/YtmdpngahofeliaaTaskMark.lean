/-
  Lists of tasks are marked, and looked at again: the laws' own helpers.
-/
import Derived.Test.YtmdpngahofeliaaTaskList
import Derived.Test.YtmdpngahofeliaaBut
namespace Go.Proofs.Ytmdpngahofeliaa
open Go.RowKit
attribute [local go_sem] Keeps.refl Keeps.alloc Keeps.drew Keeps.drewN

/-- The mark k. -/
def mkT (k : Int) : Tsk := ⟨k, k + 1, k + 1 + 1, k + 1 + 1 + 1, (k + 1 + 1 + 1 + 1) % 3 == 0, k + 1 + 1 + 1 + 1 + 1, k + 1 + 1 + 1 + 1 + 1 + 1, k + 1 + 1 + 1 + 1 + 1 + 1 + 1, k + 1 + 1 + 1 + 1 + 1 + 1 + 1 + 1, k + 1 + 1 + 1 + 1 + 1 + 1 + 1 + 1 + 1, k + 1 + 1 + 1 + 1 + 1 + 1 + 1 + 1 + 1 + 1, k + 1 + 1 + 1 + 1 + 1 + 1 + 1 + 1 + 1 + 1 + 1, k + 1 + 1 + 1 + 1 + 1 + 1 + 1 + 1 + 1 + 1 + 1 + 1, k + 1 + 1 + 1 + 1 + 1 + 1 + 1 + 1 + 1 + 1 + 1 + 1 + 1⟩
/-- Its cells. -/
abbrev mkC (k : Int) : Array Value := #[.int .i64 (k), .int .i64 (k + 1), .int .i64 (k + 1 + 1), .int .i64 (k + 1 + 1 + 1), .bool ((k + 1 + 1 + 1 + 1) % 3 == 0), .int .i64 (k + 1 + 1 + 1 + 1 + 1), .int .i64 (k + 1 + 1 + 1 + 1 + 1 + 1), .int .i64 (k + 1 + 1 + 1 + 1 + 1 + 1 + 1), .int .i64 (k + 1 + 1 + 1 + 1 + 1 + 1 + 1 + 1), .int .i64 (k + 1 + 1 + 1 + 1 + 1 + 1 + 1 + 1 + 1), .int .i64 (k + 1 + 1 + 1 + 1 + 1 + 1 + 1 + 1 + 1 + 1), .int .i64 (k + 1 + 1 + 1 + 1 + 1 + 1 + 1 + 1 + 1 + 1 + 1), .int .i64 (k + 1 + 1 + 1 + 1 + 1 + 1 + 1 + 1 + 1 + 1 + 1 + 1), .int .i64 (k + 1 + 1 + 1 + 1 + 1 + 1 + 1 + 1 + 1 + 1 + 1 + 1 + 1)]
/-- n marks from k on. -/
def marks (k : Int) (n : Nat) : List Tsk := (List.range n).map fun i : Nat => mkT (k + 14 * (i : Int))
theorem marks_at (k : Int) (n : Nat) {i : Nat} {t : Tsk} (h : (marks k n)[i]? = some t) : i < n ∧ t = mkT (k + 14 * (i : Int)) := by
  have hi : i < n := by
    rcases Nat.lt_or_ge i n with h' | h'
    · exact h'
    · rw [List.getElem?_eq_none (by simpa [marks] using h')] at h; cases h
  refine ⟨hi, ?_⟩
  simp [marks, hi] at h
  exact h.symm
theorem marks_length (k : Int) (n : Nat) : (marks k n).length = n := by simp [marks]

/-- The block b has m cells that may be written. -/
structure Room (w : World) (b m : Nat) : Prop where
  lt : b < w.heap.size
  cells : ∀ o, o < m → ∃ v, w.cell? ⟨b, o, none⟩ = some v
  frozens : ∀ o, w.frozen? ⟨b, o, none⟩ = false
theorem Room.of_row {w : World} {b n m : Nat} {T : TypeId} {f : Nat → Value} (h : w.rowIs b T n f) (hm : m ≤ n) : Room w b m :=
  ⟨h.lt, fun o ho => ⟨_, h.cell (by omega)⟩, fun o => h.frozen o⟩
theorem Room.setCell {w : World} {b m : Nat} (h : Room w b m) (p : Addr) (v : Value) : Room (w.setCell p v) b m :=
  ⟨by simpa using h.lt, fun q hq => by obtain ⟨u, hu⟩ := h.cells q hq; exact cell?_setCell_some hu, fun q => by simpa using h.frozens q⟩
theorem Room.put {w : World} {b m o : Nat} (h : Room w b m) (t : Tsk) : Room (putAt w b o t) b m :=
  (((((((((((((h.setCell _ _).setCell _ _).setCell _ _).setCell _ _).setCell _ _).setCell _ _).setCell _ _).setCell _ _).setCell _ _).setCell _ _).setCell _ _).setCell _ _).setCell _ _).setCell _ _
theorem KeepsBut.put {g o : Nat} {a b : World} (h : KeepsBut g a b) (t : Tsk) : KeepsBut g a (putAt b g o t) :=
  (((((((((((((h.setCell _ _).setCell _ _).setCell _ _).setCell _ _).setCell _ _).setCell _ _).setCell _ _).setCell _ _).setCell _ _).setCell _ _).setCell _ _).setCell _ _).setCell _ _).setCell _ _

set_option maxRecDepth 100000 in
set_option maxHeartbeats 4000000 in
theorem markTaskS_any (b cap n : Nat) (k0 : Int) (w : World) (hl : n ≤ 1048600) (h0 : 0 ≤ k0) (h1 : k0 ≤ 1048600) (hr : Room w b (n * 14)) :
    Calls Try.prog 39 #[.slice (some ⟨b, 0, none⟩) n cap, .int .i64 k0] w fun e w' => e = .returned (.int .i64 (k0 + 14 * (n : Int))) ∧ Ts w' (some ⟨b, 0, none⟩) (marks k0 n) ∧ KeepsBut b w w' := by
  go_enter Try.func39, Try.ntmps39
  go_wp2
  go_loopw [1, 5] (fun c i wr => ∃ k : Nat, k ≤ n ∧ i = .int .i64 k ∧ c = .int .i64 (k0 + 14 * (k : Int)) ∧ KeepsBut b w wr ∧ Room wr b (n * 14) ∧ Hid (∀ j, j < k → ∀ m, m < 14 → wr.cell? ⟨b, j * 14 + m, none⟩ = (tc (mkT (k0 + 14 * (j : Int))))[m]?)) (fun _ i _ => n - (intOf i).toNat)
  case atStart => exact ⟨0, Nat.zero_le _, rfl, by simp, KeepsBut.refl _ _, hr, fun j hj => by omega⟩
  case round =>
    obtain ⟨k, hk, rfl, rfl, hK, hR, hf⟩ := hrel
    clear hr
    by_cases hlt : k < n
    · have hlt' : (k : Int) < (n : Int) := by omega
      obtain ⟨c, Hc⟩ : ∃ c : Int, Hid (k0 + 14 * (k : Int) = c) := ⟨_, rfl⟩
      have hc0 : 0 ≤ c := by have := Hc.out; omega
      have hc1 : c ≤ 20000000 := by have := Hc.out; omega
      rw [Hc.out]
      have s2 : ∀ o, wr.frozen? ⟨b, o, none⟩ = false := hR.frozens
      obtain ⟨v0, s0⟩ := hR.cells (k * 14) (by omega)
      obtain ⟨v1, s1'⟩ := hR.cells (k * 14 + 1) (by omega)
      obtain ⟨v2, s2'⟩ := hR.cells (k * 14 + 2) (by omega)
      obtain ⟨v3, s3'⟩ := hR.cells (k * 14 + 3) (by omega)
      obtain ⟨v4, s4'⟩ := hR.cells (k * 14 + 4) (by omega)
      obtain ⟨v5, s5'⟩ := hR.cells (k * 14 + 5) (by omega)
      obtain ⟨v6, s6'⟩ := hR.cells (k * 14 + 6) (by omega)
      obtain ⟨v7, s7'⟩ := hR.cells (k * 14 + 7) (by omega)
      obtain ⟨v8, s8'⟩ := hR.cells (k * 14 + 8) (by omega)
      obtain ⟨v9, s9'⟩ := hR.cells (k * 14 + 9) (by omega)
      obtain ⟨v10, s10'⟩ := hR.cells (k * 14 + 10) (by omega)
      obtain ⟨v11, s11'⟩ := hR.cells (k * 14 + 11) (by omega)
      obtain ⟨v12, s12'⟩ := hR.cells (k * 14 + 12) (by omega)
      obtain ⟨v13, s13'⟩ := hR.cells (k * 14 + 13) (by omega)
      have HR : Hid (Room wr b (n * 14)) := hR
      clear hR
      go_wp2
      refine ⟨⟨k + 1, by omega, by go_num, ?_, hK.put (o := k * 14) (mkT c), HR.out.put (o := k * 14) (mkT c), ?_⟩, by simp only [intOf]; omega⟩
      · have := Hc.out
        rw [show c + 1 + 1 + 1 + 1 + 1 + 1 + 1 + 1 + 1 + 1 + 1 + 1 + 1 + 1 = k0 + 14 * ((k + 1 : Nat) : Int) from by omega]
      · intro j hj m hm
        by_cases hjk : j = k
        · subst hjk
          rw [Hc.out]
          exact putAt_in (o := j * 14) (mkT c) (fun m hm => HR.out.cells _ (by omega)) m hm
        · exact (putAt_other (w := wr) (b := b) (o := k * 14) (mkT c) (by omega)).trans (hf.out j (by omega) m hm)
    · have e : k = n := by omega
      subst e
      go_wp2
      go_ret
      refine ⟨rfl, ?_, hK⟩
      refine .inr ⟨b, 0, rfl, hR.lt, fun i t hi m hm => ?_⟩
      obtain ⟨hi', rfl⟩ := marks_at k0 k hi
      rw [Nat.zero_add]
      exact hf.out i hi' m hm

set_option maxRecDepth 100000 in
set_option maxHeartbeats 4000000 in
theorem heldTaskS_any (a : Option Addr) (cap n : Nat) (k0 : Int) (w : World) (hl : n ≤ 1048600) (h0 : 0 ≤ k0) (h1 : k0 ≤ 1048600) (hs : Ts w a (marks k0 n)) :
    Calls Try.prog 40 #[.slice a n cap, .int .i64 k0] w fun e w' => e = .returned (.int .i64 (k0 + 14 * (n : Int))) ∧ Keeps w w' := by
  have e1 : ∀ x : Int, (x != x) = false := by simp
  have e2 : ∀ x : Bool, (x != x) = false := by simp
  go_enter Try.func40, Try.ntmps40
  go_wp2
  go_loopw [1, 5] (fun c i wr => ∃ k : Nat, k ≤ n ∧ i = .int .i64 k ∧ c = .int .i64 (k0 + 14 * (k : Int)) ∧ Keeps w wr) (fun _ i _ => n - (intOf i).toNat)
  case atStart => exact ⟨0, Nat.zero_le _, rfl, by simp, Keeps.refl _⟩
  case round =>
    obtain ⟨k, hk, rfl, rfl, hK⟩ := hrel
    by_cases hlt : k < n
    · have hlt' : (k : Int) < (n : Int) := by omega
      obtain ⟨c, Hc⟩ : ∃ c : Int, Hid (k0 + 14 * (k : Int) = c) := ⟨_, rfl⟩
      have hc0 : 0 ≤ c := by have := Hc.out; omega
      have hc1 : c ≤ 20000000 := by have := Hc.out; omega
      obtain ⟨b, off, rfl, r0, r1⟩ := hs.at (i := k) (x := mkT (k0 + 14 * (k : Int))) (by simp [marks, hlt]) (by omega)
      rw [Hc.out] at r0 r1
      rw [Hc.out]
      have q0 : ∀ w', Keeps w w' → w'.cell? ⟨b, off + k * 14, none⟩ = (mkC c)[0]? := r0
      have q1 : ∀ w', Keeps w w' → ∀ j, j < 14 → w'.cell? ⟨b, off + k * 14 + j, none⟩ = (mkC c)[j]? := r1
      clear hs r0 r1
      go_wp2
      refine ⟨⟨k + 1, by omega, by go_num, ?_, hK⟩, by simp only [intOf]; omega⟩
      have := Hc.out
      rw [show c + 1 + 1 + 1 + 1 + 1 + 1 + 1 + 1 + 1 + 1 + 1 + 1 + 1 + 1 = k0 + 14 * ((k + 1 : Nat) : Int) from by omega]
    · have e : k = n := by omega
      subst e
      go_wp2
      go_ret
      exact ⟨rfl, hK⟩
end Go.Proofs.Ytmdpngahofeliaa
