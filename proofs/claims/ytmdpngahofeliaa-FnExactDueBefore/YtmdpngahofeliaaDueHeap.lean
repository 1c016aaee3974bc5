/-
  The program's heap of two: put and first.
-/
import Derived.Test.YtmdpngahofeliaaImplDueA
import Derived.Test.YtmdpngahofeliaaGrow
import Derived.Deep.RegionLaw
import Derived.BigRegion
namespace Go.Proofs.Ytmdpngahofeliaa
open Go.RowKit
attribute [local go_sem] Keeps.refl Keeps.alloc Keeps.drew Keeps.drewN

/-- A loop that is over within two rounds. -/
theorem wp_loop_twice {P : Program} {c : Code} {Q : Exit → Act → World → Prop} {a : Act} {w : World}
    (h : c.wp P (Exit.then (fun a' w' => c.wp P (Exit.then (fun _ _ => False) Q) a' w') Q) a w) : (Code.loop c).wp P Q a w := by
  by_cases h0 : c.wp P (Exit.then (fun _ _ => False) Q) a w
  · exact wp_loop_once h0
  · haveI : ∀ (a' : Act) (w' : World), Decidable (c.wp P (Exit.then (fun _ _ => False) Q) a' w') := fun _ _ => Classical.propDecidable _
    refine wp_loop (fun a' w' => (a' = a ∧ w' = w) ∨ c.wp P (Exit.then (fun _ _ => False) Q) a' w') (fun a' w' => if c.wp P (Exit.then (fun _ _ => False) Q) a' w' then 0 else 1) (.inl ⟨rfl, rfl⟩) fun a' w' hi => ?_
    by_cases h1 : c.wp P (Exit.then (fun _ _ => False) Q) a' w'
    · exact Code.wp_mono (fun e a w q => by cases e <;> first | exact q | exact q.elim) h1
    · rcases hi with ⟨rfl, rfl⟩ | hi
      · refine Code.wp_mono (fun e a w q => ?_) h
        cases e <;> first | exact q | (have q' : c.wp P (Exit.then (fun _ _ => False) Q) a w := q; refine ⟨.inr q', ?_⟩; rw [if_pos q', if_neg h1]; exact Nat.zero_lt_one)
      · exact absurd hi h1

/-- An append of one element that lies in a block of its own onto a row of one's own, as a step of a region that draws its order. -/
theorem step_push {α : Type} {P : Program} {ops : Array Oper} {o : Oper} {a : Act} {w : World} {K : Act → World → Prop} {Q : Exit → Act → World → Prop} {E : Prop}
    (hg : o.guard = none) (s x : Operand) (t : TypeId) (hop : o.op = Op.call { callee := Callee.builtin Builtin.append, args := #[s, x], argTypes := #[t, t] })
    (base : Nat) (e : TypeId) (z : Value) (sz bytes : Nat) (c : α → Array Value) (ht : P.underlying t = some (.slice e)) (hinfo : (P.info? e).map (fun i => (i.zero, i.size, i.bytes)) = some (some z, sz, bytes))
    (hzs : z.cells.size = sz) (hsz : 0 < sz) (hc : ∀ x, (c x).size = sz) (h1 : ∀ x, ∀ u ∈ (c x).toList, u.oneCell' = true)
    (v : Value) (xs : List α) (hs : a.eval s = v) (hown : Own e sz c w base v xs) (hbase : base ≤ w.heap.size)
    (y : α) (b cp : Nat) (hb : Blk w b (c y)) (hx : a.eval x = .slice (some ⟨b, 0, none⟩) 1 cp)
    (h63 : xs.length + 1 ≤ maxLen) (hbytes : (xs.length + 1) * bytes ≤ 140737488355328)
    (hK : ∀ v' w', Own e sz c w' base v' (xs ++ [y]) → w.grownBy w' v.ownBlock → K (a.put o.dst v') w') :
    if Region.wanted o (yielded ops a.tmps) = true then Oper.wp P o a w K Q else E := by
  have hw : Region.wanted o (yielded ops a.tmps) = true := by simp [Region.wanted, hg]
  rw [if_pos hw]
  obtain ⟨i, hi, hzz⟩ := Option.map_eq_some_iff.1 hinfo
  simp only [Prod.mk.injEq] at hzz
  obtain ⟨hz0, hz1, hz2⟩ := hzz
  have hfl : flatC c [y] = (c y).toList := by simp [flatC]
  obtain ⟨v', w', hrun, r1, r2, _⟩ := run_append_own (P := P) w base t o.type e i z sz bytes ht hi hz0 hz1 hz2 hzs hsz v xs.length (flatC c xs) hown ⟨b, 0, none⟩ 1 cp (flatC c [y]) (by rw [hfl]; simp [hc])
    (by
      intro j u hj
      rw [hfl] at hj
      have ea : (⟨b, 0, none⟩ : Addr).add j = ⟨b, j, none⟩ := by unfold Addr.add; by_cases h : j = 0 <;> simp [h]
      rw [ea, hb.cells j]
      simpa using hj) (flatC_one h1 [y]) h63 hbytes hbase
  unfold Oper.wp
  simp [execOp, hop, resolve, invoke, builtin, hs, hx, hrun, Result.andThen]
  refine hK v' w' ?_ r2
  unfold Own
  rw [flatC_append, List.length_append]
  exact r1

theorem dtc_size (t : Tsk) : (dtc t).size = 9 := rfl
theorem dtc_one (t : Tsk) : ∀ u ∈ (dtc t).toList, u.oneCell' = true := by
  intro u hu
  simp at hu
  rcases hu with rfl | rfl | rfl | rfl | rfl | rfl | rfl | rfl | rfl <;> rfl
theorem Own.free {α : Type} {e : TypeId} {sz : Nat} {c : α → Array Value} {w : World} {base b cap n : Nat} {xs : List α} (h : Own e sz c w base (.slice (Option.some ⟨b, 0, none⟩) n cap) xs) : base ≤ b ∧ b < w.heap.size ∧ ∀ k, w.frozen? ⟨b, k, none⟩ = false := by
  obtain ⟨_, ⟨e, _⟩ | ⟨b', cp, cur, e, hb, hh, _⟩⟩ := h
  · simp at e
  · simp only [Value.slice.injEq, Option.some.injEq, Addr.mk.injEq] at e
    obtain ⟨⟨rfl, -⟩, -, -⟩ := e
    have hlt : b < w.heap.size := by
      rcases Nat.lt_or_ge b w.heap.size with hlt | hge
      · exact hlt
      · rw [Array.getElem?_eq_none hge] at hh; cases hh
    exact ⟨hb, hlt, fun k => by simp [World.frozen?, hh]⟩
theorem Blk.grown {w w' : World} {b : Nat} {C : Array Value} {row : Option Nat} (h : Blk w b C) (hg : w.grownBy w' row) (hr : ∀ k, row = some k → k ≠ b) : Blk w' b C := by
  have e := hg.block b h.lt (fun e => hr b e.symm rfl)
  exact ⟨Nat.lt_of_lt_of_le h.lt hg.size, fun k => (World.cell?_of_block (w := w) e).trans (h.cells k), fun k => (World.frozen?_of_block (w := w) e).trans (h.frozens k)⟩

/-- Who is before whom, of two with deadlines. -/
def befD (a b : Tsk) : Bool := decide (a.due < b.due) || a.due == b.due && decide (a.no < b.no)
set_option maxRecDepth 100000 in
set_option maxHeartbeats 1000000 in
theorem isBefore_any (a b : Tsk) (w : World) :
    Calls Try.prog 121 #[.agg (dtc a), .agg (dtc b)] w fun e w' => e = .returned (.bool (befD a b)) ∧ Keeps w w' := by
  cases h1 : decide (a.due < b.due)
  · cases h2 : (a.due == b.due)
    · have Hr : Hid (befD a b = false) := by show _ = _; simp only [befD, h1, h2, Bool.false_and, Bool.or_false]
      go_enter Try.func121, Try.ntmps121
      go_wp2
      go_ret
      exact ⟨by rw [Hr.out]; rfl, ((Keeps.refl _).alloc _).alloc _⟩
    · have Hr : Hid (befD a b = decide (a.no < b.no)) := by show _ = _; simp only [befD, h1, h2, Bool.true_and, Bool.false_or]
      go_enter Try.func121, Try.ntmps121
      go_wp2
      go_ret
      exact ⟨by rw [Hr.out]; rfl, ((Keeps.refl _).alloc _).alloc _⟩
  · have Hr : Hid (befD a b = true) := by show _ = _; simp only [befD, h1, Bool.true_or]
    go_enter Try.func121, Try.ntmps121
    go_wp2
    go_ret
    exact ⟨by rw [Hr.out]; rfl, ((Keeps.refl _).alloc _).alloc _⟩

set_option maxRecDepth 100000 in
/-- The first of a heap of two. -/
theorem first_any (L b cap : Nat) (z : Tsk) (w : World) (hL : w.cell? ⟨L, 0, none⟩ = some (.slice (some ⟨b, 0, none⟩) 2 cap)) (hz : ∀ k, k < 9 → w.cell? ⟨b, k, none⟩ = (dtc z)[k]?) :
    Calls Try.prog 94 #[.pointer (some ⟨L, 0, none⟩)] w fun e w' => e = .returned (.agg (dtc z)) ∧ Keeps w w' := by
  have l1 := Keeps.has hL
  have z0 := Keeps.has (hz 0 (by omega))
  have z1 := Keeps.has (hz 1 (by omega))
  have z2 := Keeps.has (hz 2 (by omega))
  have z3 := Keeps.has (hz 3 (by omega))
  have z4 := Keeps.has (hz 4 (by omega))
  have z5 := Keeps.has (hz 5 (by omega))
  have z6 := Keeps.has (hz 6 (by omega))
  have z7 := Keeps.has (hz 7 (by omega))
  have z8 := Keeps.has (hz 8 (by omega))
  clear hz hL
  go_enter Try.func94, Try.ntmps94
  go_wp2
  exact bodyPost_ret (v := .agg (dtc z)) (by simp [results, Try.results94, go_sem]) rfl ⟨rfl, (Keeps.refl _).alloc _⟩

set_option maxRecDepth 100000 in
set_option maxHeartbeats 4000000 in
/-- The first one that is put. -/
theorem put0_any (x : Tsk) (L : Nat) (w : World) (B : Blk w L #[.slice none 0 0]) :
    Calls Try.prog 93 #[.pointer (some ⟨L, 0, none⟩), .agg (dtc x)] w fun e w' => e = .returned (.tuple #[]) ∧
      ∃ v, Blk w' L #[v] ∧ Own 75 9 dtc w' w.heap.size v [x] ∧ KeepsBut L w w' := by
  have hl := B.lt
  have B1 : Hid (Blk (w.alloc (.cells (dtc x) 75)) L #[.slice none 0 0]) := B.alloc _
  have KW : Hid (KeepsBut L w (w.alloc (.cells (dtc x) 75))) := KeepsBut.of ((Keeps.refl w).alloc _)
  have X1 := Blk.new w (dtc x) 75
  have hsz : Hid ((w.alloc (.cells (dtc x) 75)).heap.size = w.heap.size + 1) := by show _ = _; simp
  go_enter Try.func93, Try.ntmps93
  go_wp2_with fail
  obtain ⟨_, x1, x2⟩ := X1
  obtain ⟨_, b1, b2⟩ := B1.out
  clear B
  generalize w.alloc (.cells (dtc x) 75) = W at *
  go_region_law (refine step_push rfl (.tmp 10) (.tmp 12) 103 rfl W.heap.size 75 (.agg (dtc Tsk.zero)) 9 72 dtc Try.underlying103 (by kernel_rfl) rfl (by decide) dtc_size dtc_one (.slice none 0 0) [] (by simp [Act.eval]) (World.ownsRow_nil _ _ _ _) (by simp) x _ 1 ((Blk.new _ _ _).keeps (Keeps.refl _).drew) (by simp [Act.eval]) (by decide) (by decide) ?_; intro v' w' hown hgrow; obtain ⟨bb, cap, rfl, -, -, -⟩ := hown.some dtc_size (by simp); have G : Hid (Blk w' L #[.slice none 0 0]) := ((B1.out.alloc _).keeps (Keeps.refl _).drew).grown hgrow (by intro k hk; cases hk); obtain ⟨_, g1, g2⟩ := G.out)
  all_goals (go_wp2_with fail; refine wp_loop_once ?_; go_wp2; go_end0)
  all_goals
    have hL : L < W.heap.size := by have := hsz.out; omega
    have k1 : KeepsBut L w w' := ((KW.out.alloc _).drew.grown hgrow (by intro k hk; cases hk))
    exact ⟨rfl, _, by simpa using G.out.set 0 (by simp) _, (hown.butG ((KeepsBut.refl L w').setCell 0 _) hL).base (by have := hsz.out; omega), k1.setCell 0 _⟩
end Go.Proofs.Ytmdpngahofeliaa
