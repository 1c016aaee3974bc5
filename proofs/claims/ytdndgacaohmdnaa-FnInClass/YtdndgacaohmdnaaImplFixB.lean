/-
  Fixed priorities, the program's side: rows by priority.
-/
import Derived.Test.YtdndgacaohmdnaaFixHeap2
import Derived.BigRegion
namespace Go.Proofs.Ytdndgacaohmdnaa
open Go.RowKit
attribute [local go_sem] Keeps.refl Keeps.alloc Keeps.drew Keeps.drewN

set_option maxRecDepth 100000 in
set_option maxHeartbeats 1000000 in
/-- One is put into the row of its priority. -/
theorem rowsPut_of (x : Tsk) (L o : Nat) (w : World) (hp : x.prio = (o : Int) + 1) (ho : o < 20) {Q : World → Prop}
    (H : ∀ w1, Keeps w w1 → Calls Try.prog 88 #[.pointer (some ⟨L, o, none⟩), .agg (ftc x)] w1 fun e w' => e = .returned (.tuple #[]) ∧ Q w') :
    Calls Try.prog 53 #[.pointer (some ⟨L, 0, none⟩), .agg (ftc x)] w fun e w' => e = .returned (.tuple #[]) ∧ Q w' := by
  have HH : Hid (∀ w1, Keeps w w1 → Calls Try.prog 88 #[.pointer (some ⟨L, o, none⟩), .agg (ftc x)] w1 fun e w' => e = .returned (.tuple #[]) ∧ Q w') := H
  have e1 : IntKind.i64.wrap (x.prio - 1) = (o : Int) := (Go.IntWalk.i64_in _ (by omega)).trans (by omega)
  have o1 : (o : Int) < 20 := by omega
  clear H hp
  go_enter Try.func53, Try.ntmps53
  go_wp2_with fail
  have kW : Keeps w (w.alloc (.cells (ftc x) 81)) := (Keeps.refl w).alloc _
  have r1 : ∀ w', Keeps (w.alloc (.cells (ftc x) 81)) w' → ∀ k, w'.cell? ⟨w.heap.size, k, none⟩ = (ftc x)[k]? := fun w' h => ((Blk.new w (ftc x) 81).keeps h).cells
  generalize w.alloc (.cells (ftc x) 81) = W at *
  have R1 : Hid (∀ w', Keeps W w' → Calls Try.prog 88 #[.pointer (some ⟨L, o, none⟩), .agg (ftc x)] w' fun e w' => e = .returned (.tuple #[]) ∧ Q w') := fun w' h => HH.out w' (kW.trans h)
  go_region_with (go_at_call 88; refine (R1.out _ (Keeps.refl W).drew).mono ?_; rintro e w1 ⟨rfl, k1⟩)
  all_goals
    go_wp2
    go_end0
    exact ⟨rfl, k1⟩

set_option maxRecDepth 100000 in
set_option maxHeartbeats 1000000 in
/-- The first of the greatest priority. -/
theorem rowsFirst_any (L o b n cap : Nat) (z : Tsk) (w : World) (ho : o < 20) (hn : 0 < n) (hL : w.cell? ⟨L, o, none⟩ = some (.slice (some ⟨b, 0, none⟩) n cap)) (hE : ∀ k, o < k → k < 20 → w.cell? ⟨L, k, none⟩ = some (.slice none 0 0)) (hz : ∀ k, k < 9 → w.cell? ⟨b, k, none⟩ = (ftc z)[k]?) :
    Calls Try.prog 55 #[.pointer (some ⟨L, 0, none⟩)] w fun e w' => e = .returned (.agg (ftc z)) ∧ Keeps w w' := by
  have hlL := World.block_lt_of_cell? w _ hL
  have hlb := World.block_lt_of_cell? w _ (hz 0 (by omega))
  go_enter Try.func55, Try.ntmps55
  go_wp2_with fail
  have kW : Keeps w (w.alloc (.cells (ftc Tsk.zero) 81)) := (Keeps.refl w).alloc _
  have R := Blk.new w (ftc Tsk.zero) 81
  have HL : Hid ((w.alloc (.cells (ftc Tsk.zero) 81)).cell? ⟨L, o, none⟩ = some (.slice (some ⟨b, 0, none⟩) n cap)) := (kW.cells _ _ hlL).trans hL
  have HE : Hid (∀ k, o < k → k < 20 → (w.alloc (.cells (ftc Tsk.zero) 81)).cell? ⟨L, k, none⟩ = some (.slice none 0 0)) := fun k h1 h2 => (kW.cells _ _ hlL).trans (hE k h1 h2)
  have HZ : Hid (∀ k, k < 9 → (w.alloc (.cells (ftc Tsk.zero) 81)).cell? ⟨b, k, none⟩ = (ftc z)[k]?) := fun k h1 => (kW.cells _ _ hlb).trans (hz k h1)
  have RH : Hid (Blk (w.alloc (.cells (ftc Tsk.zero) 81)) w.heap.size (ftc Tsk.zero)) := R
  clear hL hE hz R hlb hlL
  obtain ⟨W, HW⟩ : ∃ W, Hid (w.alloc (.cells (ftc Tsk.zero) 81) = W) := ⟨_, rfl⟩
  rw [HW.out] at HL HE HZ RH kW
  go_loopw [3] (fun i wr => ∃ k : Nat, o ≤ k ∧ k < 20 ∧ i = .int .i64 k ∧ wr = W) (fun i _ => (intOf i).toNat)
  case atStart => exact ⟨19, by omega, by omega, rfl, HW.out⟩
  case round =>
    obtain ⟨k, hk, hk2, rfl, hw⟩ := hrel
    have hw2 := hw.symm
    subst hw2
    have k1 : (k : Int) < 20 := by omega
    by_cases ho2 : o < k
    · have c1 := HE.out k ho2 hk2
      go_wp2
      exact ⟨⟨k - 1, by omega, by omega, by go_num, trivial⟩, by simp only [intOf]; omega⟩
    · obtain rfl : k = o := by omega
      have c1 := HL.out
      have n1 : ((n : Int) == 0) = false := by simp; omega
      go_wp2_with fail
      refine (firstF_any L k b n cap z _ hn HL.out HZ.out).mono ?_
      rintro e w1 ⟨rfl, k1⟩
      have R1 : Hid (Blk w1 w.heap.size (ftc Tsk.zero)) := RH.out.keeps k1
      have K1 : Hid (Keeps w w1) := kW.trans k1
      obtain ⟨_, y1, y2⟩ := R1.out
      clear c1 k1
      go_wp2
      have D := R1.out.putC (ftc z).toList rfl
      have K := Keeps.putC (b := w.heap.size) (by omega) (ftc z).toList 0 K1.out
      change bodyPost _ _ _ _ _ (putC w1 (w.heap.size) 0 (ftc z).toList)
      generalize putC w1 (w.heap.size) 0 (ftc z).toList = X at D K ⊢
      exact bodyPost_ret (v := .agg (ftc z)) (by simp [results, Try.results55, go_sem, D.cells]) rfl ⟨rfl, K⟩
end Go.Proofs.Ytdndgacaohmdnaa
