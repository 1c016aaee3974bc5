/-
  Fair shares, the program's side: the floor, and how far apart they are.
-/
import Derived.Test.YtdndgacaohmdnaaImplLeast
import Derived.Test.YtdndgacaohmdnaaFairLaws2
namespace Go.Proofs.Ytdndgacaohmdnaa
open Go.RowKit Go.Shelf
attribute [local go_sem] Keeps.refl Keeps.alloc Keeps.drew Keeps.drewN

set_option maxRecDepth 100000 in
set_option maxHeartbeats 2000000 in
theorem implFairFloor_says : SaysFloor := by
  intro a cap ts floor w hl hs
  have WH : Hid (Calls Try.prog 57 #[.slice a ts.length cap] w fun e w' => (∃ xs, HeapOf ts xs ∧ ((xs = [] ∧ e = .returned (.tuple #[.agg (rtc Tsk.zero), .bool false])) ∨ ∃ f, xs[0]? = some f ∧ e = .returned (.tuple #[.agg (rtc f), .bool true]))) ∧ Keeps w w') := whoHadLeast_any a cap ts w hl hs
  generalize ts.length = n at *
  clear hs hl
  go_enter Try.func32, Try.ntmps32
  go_wp2_with fail
  refine WH.out.mono ?_
  rintro e w1 ⟨⟨xs, hO, ⟨rfl, rfl⟩ | ⟨f, hf, rfl⟩⟩, k1⟩
  · have Hr : Hid (fairFloorI ts floor = floor) := hO.floor0 floor
    go_wp2
    go_ret
    exact ⟨by rw [Hr.out]; rfl, k1.alloc _⟩
  · have Hr0 := hO.floor hf floor
    by_cases hm : floor < f.v
    · have Hr : Hid (fairFloorI ts floor = f.v) := by show _ = _; rw [Hr0]; omega
      clear Hr0
      go_wp2
      go_ret
      exact ⟨by rw [Hr.out]; rfl, k1.alloc _⟩
    · have Hr : Hid (fairFloorI ts floor = floor) := by show _ = _; rw [Hr0]; omega
      clear Hr0
      go_wp2
      go_ret
      exact ⟨by rw [Hr.out]; rfl, k1.alloc _⟩
end Go.Proofs.Ytdndgacaohmdnaa
