/-
  A drawn list of tasks and a floor: the contract of the model's draw.
-/
import Derived.Test.YtdndgacaohmdnaaDrawFair
import Derived.Test.YtdndgacaohmdnaaDrawTasks
namespace Go.Proofs.Ytdndgacaohmdnaa
open Go.RowKit

set_option maxRecDepth 100000 in
set_option maxHeartbeats 2000000 in
theorem drawFairFloor_any (a : Option Addr) (n cap : Nat) (w : World) (hn : n ≤ 1048576) (hb : ∀ g, w.heap.size ≤ g → Bytes g w a n) :
    Calls Try.prog 31 #[.slice a n cap] w fun e w' => ∃ (b cp : Nat) (ts : List Tsk) (x : Int), e = .returned (.tuple #[.slice (some ⟨b, 0, none⟩) ts.length cp, .int .i64 x]) ∧ OwnT w' w.heap.size (.slice (some ⟨b, 0, none⟩) ts.length cp) ts ∧ ts.length ≤ 13 ∧ (-1 ≤ x ∧ x ≤ 100000001) ∧ Keeps w w' := by
  go_enter Try.func31, Try.ntmps31
  go_wp2_with fail
  refine (l1New_any a n cap _ hn hb).mono ?_
  rintro e w1 ⟨g, rfl, hg, hc1, k1⟩
  clear hb
  have hg1 := hc1.lt
  go_wp2_with fail
  refine (l3DrawList_any g _ hc1).mono ?_
  rintro e w2 ⟨v, ts, rfl, D, hts⟩
  have K2 := D.kb.keeps k1 hg
  obtain ⟨bv, cp, rfl⟩ := D.adr
  go_wp2_with fail
  refine (l6DrawFloor_any g _ D.cur).mono ?_
  rintro e w3 ⟨x, rfl, hx, hc3, k3⟩
  have K3 := k3.keeps K2 hg
  have own3 := D.own.butG k3 hg1
  have hsz := k1.size
  go_wp2
  go_ret2
  exact ⟨bv, cp, ts, x, rfl, own3.base hsz, hts, hx, K3⟩
end Go.Proofs.Ytdndgacaohmdnaa
