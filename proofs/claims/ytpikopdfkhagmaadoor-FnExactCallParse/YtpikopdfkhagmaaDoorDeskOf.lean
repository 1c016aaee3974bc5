/-
  The model's l14Of: the call of a kind with its numbers.
-/
import Derived.Test.YtpikopdfkhagmaaDoorDeskParseP
import Derived.Test.YtpikopdfkhagmaaDoorDeskCall
namespace Go.Proofs.YtpikopdfkhagmaaDoor
open Go.RowKit
attribute [local go_sem] Keeps.refl Keeps.alloc Keeps.drew Keeps.drewN

theorem len_one {α : Type} {xs : List α} (h : xs.length = 1) : ∃ a, xs = [a] := by
  match xs, h with
  | [a], _ => exact ⟨a, rfl⟩
theorem len_two {α : Type} {xs : List α} (h : xs.length = 2) : ∃ a b, xs = [a, b] := by
  match xs, h with
  | [a, b], _ => exact ⟨a, b, rfl⟩
theorem len_three {α : Type} {xs : List α} (h : xs.length = 3) : ∃ a b c, xs = [a, b, c] := by
  match xs, h with
  | [a, b, c], _ => exact ⟨a, b, c, rfl⟩
theorem len_four {α : Type} {xs : List α} (h : xs.length = 4) : ∃ a b c d, xs = [a, b, c, d] := by
  match xs, h with
  | [a, b, c, d], _ => exact ⟨a, b, c, d, rfl⟩
set_option maxRecDepth 100000 in
set_option maxHeartbeats 8000000 in
theorem l14Of_any (k : Int) (ns : List Int) (b n cap : Nat) (w : World) (hk : k ∈ kindsL) (hn : ns.length = n) (hl : ns.length = (numsL ⟨k, 0, 0, 0, 0⟩).length) (hs : Ns w (some ⟨b, 0, none⟩) ns) :
    Calls Tryd.prog 28 #[.int .i64 k, .slice (some ⟨b, 0, none⟩) n cap] w fun e w' => e = .returned (ck (ofF k ns)) ∧ Keeps w w' := by
  have h2 : k = 1 ∨ k = 2 ∨ k = 3 ∨ k = 4 ∨ k = 5 ∨ k = 6 ∨ k = 7 ∨ k = 8 ∨ k = 9 ∨ k = 10 ∨ k = 11 := by
    unfold kindsL at hk
    simpa using hk
  clear hk
  rcases h2 with rfl | rfl | rfl | rfl | rfl | rfl | rfl | rfl | rfl | rfl | rfl
  · obtain ⟨x, y, z, t, rfl⟩ := len_four (show ns.length = 4 from hl)
    obtain rfl : 4 = n := hn
    have r0 := hs.getAt (k := 0) (x := x) rfl w (Keeps.refl w)
    have r1 := hs.getAt (k := 1) (x := y) rfl w (Keeps.refl w)
    have r2 := hs.getAt (k := 2) (x := z) rfl w (Keeps.refl w)
    have r3 := hs.getAt (k := 3) (x := t) rfl w (Keeps.refl w)
    have hb := World.block_lt_of_cell? w _ r0
    simp only at hb
    have hb1 : b ≠ w.heap.size := by omega
    have hb2 : b ≠ w.heap.size + 1 := by omega
    clear hs hl
    go_enter Tryd.func28, Tryd.ntmps28
    go_wp2
    exact bodyPost_ret (v := ck (ofF 1 [x, y, z, t])) (by simp [results, Tryd.results28, go_sem, ofF]) rfl ⟨rfl, by repeat (first | exact Keeps.refl _ | refine Keeps.setCell ?_ (by simp) _ | refine Keeps.alloc ?_ _ | refine Keeps.drewN ?_ _)⟩
  · obtain ⟨x, y, z, t, rfl⟩ := len_four (show ns.length = 4 from hl)
    obtain rfl : 4 = n := hn
    have r0 := hs.getAt (k := 0) (x := x) rfl w (Keeps.refl w)
    have r1 := hs.getAt (k := 1) (x := y) rfl w (Keeps.refl w)
    have r2 := hs.getAt (k := 2) (x := z) rfl w (Keeps.refl w)
    have r3 := hs.getAt (k := 3) (x := t) rfl w (Keeps.refl w)
    have hb := World.block_lt_of_cell? w _ r0
    simp only at hb
    have hb1 : b ≠ w.heap.size := by omega
    have hb2 : b ≠ w.heap.size + 1 := by omega
    clear hs hl
    go_enter Tryd.func28, Tryd.ntmps28
    go_wp2
    exact bodyPost_ret (v := ck (ofF 2 [x, y, z, t])) (by simp [results, Tryd.results28, go_sem, ofF]) rfl ⟨rfl, by repeat (first | exact Keeps.refl _ | refine Keeps.setCell ?_ (by simp) _ | refine Keeps.alloc ?_ _ | refine Keeps.drewN ?_ _)⟩
  · obtain ⟨x, y, z, rfl⟩ := len_three (show ns.length = 3 from hl)
    obtain rfl : 3 = n := hn
    have r0 := hs.getAt (k := 0) (x := x) rfl w (Keeps.refl w)
    have r1 := hs.getAt (k := 1) (x := y) rfl w (Keeps.refl w)
    have r2 := hs.getAt (k := 2) (x := z) rfl w (Keeps.refl w)
    have hb := World.block_lt_of_cell? w _ r0
    simp only at hb
    have hb1 : b ≠ w.heap.size := by omega
    have hb2 : b ≠ w.heap.size + 1 := by omega
    clear hs hl
    go_enter Tryd.func28, Tryd.ntmps28
    go_wp2
    exact bodyPost_ret (v := ck (ofF 3 [x, y, z])) (by simp [results, Tryd.results28, go_sem, ofF]) rfl ⟨rfl, by repeat (first | exact Keeps.refl _ | refine Keeps.setCell ?_ (by simp) _ | refine Keeps.alloc ?_ _ | refine Keeps.drewN ?_ _)⟩
  · obtain ⟨x, rfl⟩ := len_one (show ns.length = 1 from hl)
    obtain rfl : 1 = n := hn
    have r0 := hs.getAt (k := 0) (x := x) rfl w (Keeps.refl w)
    have hb := World.block_lt_of_cell? w _ r0
    simp only at hb
    have hb1 : b ≠ w.heap.size := by omega
    have hb2 : b ≠ w.heap.size + 1 := by omega
    clear hs hl
    go_enter Tryd.func28, Tryd.ntmps28
    go_wp2
    exact bodyPost_ret (v := ck (ofF 4 [x])) (by simp [results, Tryd.results28, go_sem, ofF]) rfl ⟨rfl, by repeat (first | exact Keeps.refl _ | refine Keeps.setCell ?_ (by simp) _ | refine Keeps.alloc ?_ _ | refine Keeps.drewN ?_ _)⟩
  · obtain ⟨x, rfl⟩ := len_one (show ns.length = 1 from hl)
    obtain rfl : 1 = n := hn
    have r0 := hs.getAt (k := 0) (x := x) rfl w (Keeps.refl w)
    have hb := World.block_lt_of_cell? w _ r0
    simp only at hb
    have hb1 : b ≠ w.heap.size := by omega
    have hb2 : b ≠ w.heap.size + 1 := by omega
    clear hs hl
    go_enter Tryd.func28, Tryd.ntmps28
    go_wp2
    exact bodyPost_ret (v := ck (ofF 5 [x])) (by simp [results, Tryd.results28, go_sem, ofF]) rfl ⟨rfl, by repeat (first | exact Keeps.refl _ | refine Keeps.setCell ?_ (by simp) _ | refine Keeps.alloc ?_ _ | refine Keeps.drewN ?_ _)⟩
  · obtain ⟨x, rfl⟩ := len_one (show ns.length = 1 from hl)
    obtain rfl : 1 = n := hn
    have r0 := hs.getAt (k := 0) (x := x) rfl w (Keeps.refl w)
    have hb := World.block_lt_of_cell? w _ r0
    simp only at hb
    have hb1 : b ≠ w.heap.size := by omega
    have hb2 : b ≠ w.heap.size + 1 := by omega
    clear hs hl
    go_enter Tryd.func28, Tryd.ntmps28
    go_wp2
    exact bodyPost_ret (v := ck (ofF 6 [x])) (by simp [results, Tryd.results28, go_sem, ofF]) rfl ⟨rfl, by repeat (first | exact Keeps.refl _ | refine Keeps.setCell ?_ (by simp) _ | refine Keeps.alloc ?_ _ | refine Keeps.drewN ?_ _)⟩
  · obtain ⟨x, y, rfl⟩ := len_two (show ns.length = 2 from hl)
    obtain rfl : 2 = n := hn
    have r0 := hs.getAt (k := 0) (x := x) rfl w (Keeps.refl w)
    have r1 := hs.getAt (k := 1) (x := y) rfl w (Keeps.refl w)
    have hb := World.block_lt_of_cell? w _ r0
    simp only at hb
    have hb1 : b ≠ w.heap.size := by omega
    have hb2 : b ≠ w.heap.size + 1 := by omega
    clear hs hl
    go_enter Tryd.func28, Tryd.ntmps28
    go_wp2
    exact bodyPost_ret (v := ck (ofF 7 [x, y])) (by simp [results, Tryd.results28, go_sem, ofF]) rfl ⟨rfl, by repeat (first | exact Keeps.refl _ | refine Keeps.setCell ?_ (by simp) _ | refine Keeps.alloc ?_ _ | refine Keeps.drewN ?_ _)⟩
  · obtain ⟨x, y, rfl⟩ := len_two (show ns.length = 2 from hl)
    obtain rfl : 2 = n := hn
    have r0 := hs.getAt (k := 0) (x := x) rfl w (Keeps.refl w)
    have r1 := hs.getAt (k := 1) (x := y) rfl w (Keeps.refl w)
    have hb := World.block_lt_of_cell? w _ r0
    simp only at hb
    have hb1 : b ≠ w.heap.size := by omega
    have hb2 : b ≠ w.heap.size + 1 := by omega
    clear hs hl
    go_enter Tryd.func28, Tryd.ntmps28
    go_wp2
    exact bodyPost_ret (v := ck (ofF 8 [x, y])) (by simp [results, Tryd.results28, go_sem, ofF]) rfl ⟨rfl, by repeat (first | exact Keeps.refl _ | refine Keeps.setCell ?_ (by simp) _ | refine Keeps.alloc ?_ _ | refine Keeps.drewN ?_ _)⟩
  · obtain ⟨x, y, rfl⟩ := len_two (show ns.length = 2 from hl)
    obtain rfl : 2 = n := hn
    have r0 := hs.getAt (k := 0) (x := x) rfl w (Keeps.refl w)
    have r1 := hs.getAt (k := 1) (x := y) rfl w (Keeps.refl w)
    have hb := World.block_lt_of_cell? w _ r0
    simp only at hb
    have hb1 : b ≠ w.heap.size := by omega
    have hb2 : b ≠ w.heap.size + 1 := by omega
    clear hs hl
    go_enter Tryd.func28, Tryd.ntmps28
    go_wp2
    exact bodyPost_ret (v := ck (ofF 9 [x, y])) (by simp [results, Tryd.results28, go_sem, ofF]) rfl ⟨rfl, by repeat (first | exact Keeps.refl _ | refine Keeps.setCell ?_ (by simp) _ | refine Keeps.alloc ?_ _ | refine Keeps.drewN ?_ _)⟩
  · obtain ⟨x, y, rfl⟩ := len_two (show ns.length = 2 from hl)
    obtain rfl : 2 = n := hn
    have r0 := hs.getAt (k := 0) (x := x) rfl w (Keeps.refl w)
    have r1 := hs.getAt (k := 1) (x := y) rfl w (Keeps.refl w)
    have hb := World.block_lt_of_cell? w _ r0
    simp only at hb
    have hb1 : b ≠ w.heap.size := by omega
    have hb2 : b ≠ w.heap.size + 1 := by omega
    clear hs hl
    go_enter Tryd.func28, Tryd.ntmps28
    go_wp2
    exact bodyPost_ret (v := ck (ofF 10 [x, y])) (by simp [results, Tryd.results28, go_sem, ofF]) rfl ⟨rfl, by repeat (first | exact Keeps.refl _ | refine Keeps.setCell ?_ (by simp) _ | refine Keeps.alloc ?_ _ | refine Keeps.drewN ?_ _)⟩
  · obtain ⟨x, rfl⟩ := len_one (show ns.length = 1 from hl)
    obtain rfl : 1 = n := hn
    have r0 := hs.getAt (k := 0) (x := x) rfl w (Keeps.refl w)
    have hb := World.block_lt_of_cell? w _ r0
    simp only at hb
    have hb1 : b ≠ w.heap.size := by omega
    have hb2 : b ≠ w.heap.size + 1 := by omega
    clear hs hl
    go_enter Tryd.func28, Tryd.ntmps28
    go_wp2
    exact bodyPost_ret (v := ck (ofF 11 [x])) (by simp [results, Tryd.results28, go_sem, ofF]) rfl ⟨rfl, by repeat (first | exact Keeps.refl _ | refine Keeps.setCell ?_ (by simp) _ | refine Keeps.alloc ?_ _ | refine Keeps.drewN ?_ _)⟩
end Go.Proofs.YtpikopdfkhagmaaDoor
