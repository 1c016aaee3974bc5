/-
  The program's heap of two: put and first.
-/
import Derived.Test.YtdndgacaohmdnaaImplFixA
import Derived.Test.YtdndgacaohmdnaaHeap
namespace Go.Proofs.Ytdndgacaohmdnaa
open Go.RowKit
attribute [local go_sem] Keeps.refl Keeps.alloc Keeps.drew Keeps.drewN

theorem ftc_size (t : Tsk) : (ftc t).size = 9 := rfl
theorem ftc_one (t : Tsk) : ∀ u ∈ (ftc t).toList, u.oneCell' = true := by
  intro u hu
  simp at hu
  rcases hu with rfl | rfl | rfl | rfl | rfl | rfl | rfl | rfl | rfl <;> rfl
/-- Who is before whom, of two of one priority. -/
def befF (a b : Tsk) : Bool := decide (a.seq < b.seq) || a.seq == b.seq && decide (a.no < b.no)
set_option maxRecDepth 100000 in
set_option maxHeartbeats 1000000 in
theorem isBeforeF_any (a b : Tsk) (w : World) :
    Calls Try.prog 123 #[.agg (ftc a), .agg (ftc b)] w fun e w' => e = .returned (.bool (befF a b)) ∧ Keeps w w' := by
  cases h1 : decide (a.seq < b.seq)
  · cases h2 : (a.seq == b.seq)
    · have Hr : Hid (befF a b = false) := by show _ = _; simp only [befF, h1, h2, Bool.false_and, Bool.or_false]
      go_enter Try.func123, Try.ntmps123
      go_wp2
      go_ret
      exact ⟨by rw [Hr.out]; rfl, ((Keeps.refl _).alloc _).alloc _⟩
    · have Hr : Hid (befF a b = decide (a.no < b.no)) := by show _ = _; simp only [befF, h1, h2, Bool.true_and, Bool.false_or]
      go_enter Try.func123, Try.ntmps123
      go_wp2
      go_ret
      exact ⟨by rw [Hr.out]; rfl, ((Keeps.refl _).alloc _).alloc _⟩
  · have Hr : Hid (befF a b = true) := by show _ = _; simp only [befF, h1, Bool.true_or]
    go_enter Try.func123, Try.ntmps123
    go_wp2
    go_ret
    exact ⟨by rw [Hr.out]; rfl, ((Keeps.refl _).alloc _).alloc _⟩

set_option maxRecDepth 100000 in
/-- The first of a heap. -/
theorem firstF_any (L o b n cap : Nat) (z : Tsk) (w : World) (hn : 0 < n) (hL : w.cell? ⟨L, o, none⟩ = some (.slice (some ⟨b, 0, none⟩) n cap)) (hz : ∀ k, k < 9 → w.cell? ⟨b, k, none⟩ = (ftc z)[k]?) :
    Calls Try.prog 89 #[.pointer (some ⟨L, o, none⟩)] w fun e w' => e = .returned (.agg (ftc z)) ∧ Keeps w w' := by
  have l1 := Keeps.has hL
  have z0 := Keeps.has (hz 0 (by omega))
  have z1 := Keeps.has (hz 1 (by omega))
  have z2 := Keeps.has (hz 2 (by omega))
  have z3 := Keeps.has (hz 3 (by omega))
  have z4 := Keeps.has (hz 4 (by omega))
  have z5 := Keeps.has (hz 5 (by omega))
  have z6 := Keeps.has (hz 6 (by omega))
  have z7 := Keeps.has (hz 7 (by omega))
  have z8 := Keeps.has (hz 8 (by omega))
  clear hz hL
  go_enter Try.func89, Try.ntmps89
  go_wp2
  exact bodyPost_ret (v := .agg (ftc z)) (by simp [results, Try.results89, go_sem]) rfl ⟨rfl, (Keeps.refl _).alloc _⟩

set_option maxRecDepth 100000 in
set_option maxHeartbeats 4000000 in
/-- The first one that is put into a row. -/
theorem put0F_any (x : Tsk) (L o : Nat) (C : Array Value) (w : World) (B : Blk w L C) (hC : C[o]? = some (.slice none 0 0)) :
    Calls Try.prog 88 #[.pointer (some ⟨L, o, none⟩), .agg (ftc x)] w fun e w' => e = .returned (.tuple #[]) ∧
      ∃ v, Blk w' L (C.setIfInBounds o v) ∧ Own 81 9 ftc w' w.heap.size v [x] ∧ KeepsBut L w w' := by
  have hl := B.lt
  have B1 : Hid (Blk (w.alloc (.cells (ftc x) 81)) L C) := B.alloc _
  have KW : Hid (KeepsBut L w (w.alloc (.cells (ftc x) 81))) := KeepsBut.of ((Keeps.refl w).alloc _)
  have X1 := Blk.new w (ftc x) 81
  have hsz : Hid ((w.alloc (.cells (ftc x) 81)).heap.size = w.heap.size + 1) := by show _ = _; simp
  have hCo : Hid (C[o]? = some (.slice none 0 0)) := hC
  go_enter Try.func88, Try.ntmps88
  go_wp2_with fail
  obtain ⟨_, x1, x2⟩ := X1
  have b1 : (w.alloc (.cells (ftc x) 81)).cell? ⟨L, o, none⟩ = some (.slice none 0 0) := (B1.out.cells o).trans hCo.out
  have b2 := B1.out.frozens o
  have b0 := B1.out.lt
  clear B hC
  generalize w.alloc (.cells (ftc x) 81) = W at *
  go_region_law (refine step_push rfl (.tmp 10) (.tmp 12) 72 rfl W.heap.size 81 (.agg (ftc Tsk.zero)) 9 72 ftc Try.underlying72 (by kernel_rfl) rfl (by decide) ftc_size ftc_one (.slice none 0 0) [] (by simp [Act.eval]) (World.ownsRow_nil _ _ _ _) (by simp) x _ 1 ((Blk.new _ _ _).keeps (Keeps.refl _).drew) (by simp [Act.eval]) (by decide) (by decide) ?_; intro v' w' hown hgrow; obtain ⟨bb, cap, rfl, -, -, -⟩ := hown.some ftc_size (by simp); have G : Hid (Blk w' L C) := ((B1.out.alloc _).keeps (Keeps.refl _).drew).grown hgrow (by intro k hk; cases hk); have g1 : w'.cell? ⟨L, o, none⟩ = some (.slice none 0 0) := (G.out.cells o).trans hCo.out; have g2 := G.out.frozens o; have g0 := G.out.lt)
  all_goals (go_wp2_with fail; refine wp_loop_once ?_; go_wp2; go_end0)
  all_goals
    have hL : L < W.heap.size := by have := hsz.out; omega
    have ho : o < C.size := by
      rcases Nat.lt_or_ge o C.size with h | h
      · exact h
      · have := hCo.out; rw [Array.getElem?_eq_none h] at this; cases this
    have k1 : KeepsBut L w w' := ((KW.out.alloc _).drew.grown hgrow (by intro k hk; cases hk))
    exact ⟨rfl, _, by simpa using G.out.set o ho _, (hown.butG ((KeepsBut.refl L w').setCell o _) hL).base (by have := hsz.out; omega), k1.setCell o _⟩
end Go.Proofs.Ytdndgacaohmdnaa
