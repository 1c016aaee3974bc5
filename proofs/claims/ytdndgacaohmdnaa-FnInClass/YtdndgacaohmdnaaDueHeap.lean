/-
  The program's heap of two: put and first.
-/
import Derived.Test.YtdndgacaohmdnaaImplDueA
import Derived.Test.YtdndgacaohmdnaaHeap
namespace Go.Proofs.Ytdndgacaohmdnaa
open Go.RowKit
attribute [local go_sem] Keeps.refl Keeps.alloc Keeps.drew Keeps.drewN

theorem dtc_size (t : Tsk) : (dtc t).size = 9 := rfl
theorem dtc_one (t : Tsk) : ∀ u ∈ (dtc t).toList, u.oneCell' = true := by
  intro u hu
  simp at hu
  rcases hu with rfl | rfl | rfl | rfl | rfl | rfl | rfl | rfl | rfl <;> rfl
/-- Who is before whom, of two with deadlines. -/
def befD (a b : Tsk) : Bool := decide (a.due < b.due) || a.due == b.due && decide (a.no < b.no)
set_option maxRecDepth 100000 in
set_option maxHeartbeats 1000000 in
theorem isBefore_any (a b : Tsk) (w : World) :
    Calls Try.prog 122 #[.agg (dtc a), .agg (dtc b)] w fun e w' => e = .returned (.bool (befD a b)) ∧ Keeps w w' := by
  cases h1 : decide (a.due < b.due)
  · cases h2 : (a.due == b.due)
    · have Hr : Hid (befD a b = false) := by show _ = _; simp only [befD, h1, h2, Bool.false_and, Bool.or_false]
      go_enter Try.func122, Try.ntmps122
      go_wp2
      go_ret
      exact ⟨by rw [Hr.out]; rfl, ((Keeps.refl _).alloc _).alloc _⟩
    · have Hr : Hid (befD a b = decide (a.no < b.no)) := by show _ = _; simp only [befD, h1, h2, Bool.true_and, Bool.false_or]
      go_enter Try.func122, Try.ntmps122
      go_wp2
      go_ret
      exact ⟨by rw [Hr.out]; rfl, ((Keeps.refl _).alloc _).alloc _⟩
  · have Hr : Hid (befD a b = true) := by show _ = _; simp only [befD, h1, Bool.true_or]
    go_enter Try.func122, Try.ntmps122
    go_wp2
    go_ret
    exact ⟨by rw [Hr.out]; rfl, ((Keeps.refl _).alloc _).alloc _⟩

set_option maxRecDepth 100000 in
/-- The first of a heap of two. -/
theorem first_any (L b cap : Nat) (z : Tsk) (w : World) (hL : w.cell? ⟨L, 0, none⟩ = some (.slice (some ⟨b, 0, none⟩) 2 cap)) (hz : ∀ k, k < 9 → w.cell? ⟨b, k, none⟩ = (dtc z)[k]?) :
    Calls Try.prog 51 #[.pointer (some ⟨L, 0, none⟩)] w fun e w' => e = .returned (.agg (dtc z)) ∧ Keeps w w' := by
  have l1 := Keeps.has hL
  have z0 := Keeps.has (hz 0 (by omega))
  have z1 := Keeps.has (hz 1 (by omega))
  have z2 := Keeps.has (hz 2 (by omega))
  have z3 := Keeps.has (hz 3 (by omega))
  have z4 := Keeps.has (hz 4 (by omega))
  have z5 := Keeps.has (hz 5 (by omega))
  have z6 := Keeps.has (hz 6 (by omega))
  have z7 := Keeps.has (hz 7 (by omega))
  have z8 := Keeps.has (hz 8 (by omega))
  clear hz hL
  go_enter Try.func51, Try.ntmps51
  go_wp2
  exact bodyPost_ret (v := .agg (dtc z)) (by simp [results, Try.results51, go_sem]) rfl ⟨rfl, (Keeps.refl _).alloc _⟩

set_option maxRecDepth 100000 in
set_option maxHeartbeats 4000000 in
/-- The first one that is put. -/
theorem put0_any (x : Tsk) (L : Nat) (w : World) (B : Blk w L #[.slice none 0 0]) :
    Calls Try.prog 49 #[.pointer (some ⟨L, 0, none⟩), .agg (dtc x)] w fun e w' => e = .returned (.tuple #[]) ∧
      ∃ v, Blk w' L #[v] ∧ Own 69 9 dtc w' w.heap.size v [x] ∧ KeepsBut L w w' := by
  have hl := B.lt
  have B1 : Hid (Blk (w.alloc (.cells (dtc x) 69)) L #[.slice none 0 0]) := B.alloc _
  have KW : Hid (KeepsBut L w (w.alloc (.cells (dtc x) 69))) := KeepsBut.of ((Keeps.refl w).alloc _)
  have X1 := Blk.new w (dtc x) 69
  have hsz : Hid ((w.alloc (.cells (dtc x) 69)).heap.size = w.heap.size + 1) := by show _ = _; simp
  go_enter Try.func49, Try.ntmps49
  go_wp2_with fail
  obtain ⟨_, x1, x2⟩ := X1
  obtain ⟨_, b1, b2⟩ := B1.out
  clear B
  generalize w.alloc (.cells (dtc x) 69) = W at *
  go_region_law (refine step_push rfl (.tmp 10) (.tmp 12) 58 rfl W.heap.size 69 (.agg (dtc Tsk.zero)) 9 72 dtc Try.underlying58 (by kernel_rfl) rfl (by decide) dtc_size dtc_one (.slice none 0 0) [] (by simp [Act.eval]) (World.ownsRow_nil _ _ _ _) (by simp) x _ 1 ((Blk.new _ _ _).keeps (Keeps.refl _).drew) (by simp [Act.eval]) (by decide) (by decide) ?_; intro v' w' hown hgrow; obtain ⟨bb, cap, rfl, -, -, -⟩ := hown.some dtc_size (by simp); have G : Hid (Blk w' L #[.slice none 0 0]) := ((B1.out.alloc _).keeps (Keeps.refl _).drew).grown hgrow (by intro k hk; cases hk); obtain ⟨_, g1, g2⟩ := G.out)
  all_goals (go_wp2_with fail; refine wp_loop_once ?_; go_wp2; go_end0)
  all_goals
    have hL : L < W.heap.size := by have := hsz.out; omega
    have k1 : KeepsBut L w w' := ((KW.out.alloc _).drew.grown hgrow (by intro k hk; cases hk))
    exact ⟨rfl, _, by simpa using G.out.set 0 (by simp) _, (hown.butG ((KeepsBut.refl L w').setCell 0 _) hL).base (by have := hsz.out; omega), k1.setCell 0 _⟩
end Go.Proofs.Ytdndgacaohmdnaa
