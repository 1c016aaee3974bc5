/-
  What a heap's walk needs of every kind: loops of two rounds, appends in a drawn region, swaps of two elements of nine cells.
-/
import Derived.Test.YtglemedcnapneaaHas
import Derived.Test.YtglemedcnapneaaGrow
import Derived.Deep.RegionLaw
import Derived.BigRegion
namespace Go.Proofs.Ytglemedcnapneaa
open Go.RowKit
/-- A loop that is over within two rounds. -/
theorem wp_loop_twice {P : Program} {c : Code} {Q : Exit → Act → World → Prop} {a : Act} {w : World}
    (h : c.wp P (Exit.then (fun a' w' => c.wp P (Exit.then (fun _ _ => False) Q) a' w') Q) a w) : (Code.loop c).wp P Q a w := by
  by_cases h0 : c.wp P (Exit.then (fun _ _ => False) Q) a w
  · exact wp_loop_once h0
  · haveI : ∀ (a' : Act) (w' : World), Decidable (c.wp P (Exit.then (fun _ _ => False) Q) a' w') := fun _ _ => Classical.propDecidable _
    refine wp_loop (fun a' w' => (a' = a ∧ w' = w) ∨ c.wp P (Exit.then (fun _ _ => False) Q) a' w') (fun a' w' => if c.wp P (Exit.then (fun _ _ => False) Q) a' w' then 0 else 1) (.inl ⟨rfl, rfl⟩) fun a' w' hi => ?_
    by_cases h1 : c.wp P (Exit.then (fun _ _ => False) Q) a' w'
    · exact Code.wp_mono (fun e a w q => by cases e <;> first | exact q | exact q.elim) h1
    · rcases hi with ⟨rfl, rfl⟩ | hi
      · refine Code.wp_mono (fun e a w q => ?_) h
        cases e <;> first | exact q | (have q' : c.wp P (Exit.then (fun _ _ => False) Q) a w := q; refine ⟨.inr q', ?_⟩; rw [if_pos q', if_neg h1]; exact Nat.zero_lt_one)
      · exact absurd hi h1

/-- An append of one element that lies in a block of its own onto a row of one's own, as a step of a region that draws its order. -/
theorem step_push {α : Type} {P : Program} {ops : Array Oper} {o : Oper} {a : Act} {w : World} {K : Act → World → Prop} {Q : Exit → Act → World → Prop} {E : Prop}
    (hg : o.guard = none) (s x : Operand) (t : TypeId) (hop : o.op = Op.call { callee := Callee.builtin Builtin.append, args := #[s, x], argTypes := #[t, t] })
    (base : Nat) (e : TypeId) (z : Value) (sz bytes : Nat) (c : α → Array Value) (ht : P.underlying t = some (.slice e)) (hinfo : (P.info? e).map (fun i => (i.zero, i.size, i.bytes)) = some (some z, sz, bytes))
    (hzs : z.cells.size = sz) (hsz : 0 < sz) (hc : ∀ x, (c x).size = sz) (h1 : ∀ x, ∀ u ∈ (c x).toList, u.oneCell' = true)
    (v : Value) (xs : List α) (hs : a.eval s = v) (hown : Own e sz c w base v xs) (hbase : base ≤ w.heap.size)
    (y : α) (b cp : Nat) (hb : Blk w b (c y)) (hx : a.eval x = .slice (some ⟨b, 0, none⟩) 1 cp)
    (h63 : xs.length + 1 ≤ maxLen) (hbytes : (xs.length + 1) * bytes ≤ 140737488355328)
    (hK : ∀ v' w', Own e sz c w' base v' (xs ++ [y]) → w.grownBy w' v.ownBlock → K (a.put o.dst v') w') :
    if Region.wanted o (yielded ops a.tmps) = true then Oper.wp P o a w K Q else E := by
  have hw : Region.wanted o (yielded ops a.tmps) = true := by simp [Region.wanted, hg]
  rw [if_pos hw]
  obtain ⟨i, hi, hzz⟩ := Option.map_eq_some_iff.1 hinfo
  simp only [Prod.mk.injEq] at hzz
  obtain ⟨hz0, hz1, hz2⟩ := hzz
  have hfl : flatC c [y] = (c y).toList := by simp [flatC]
  obtain ⟨v', w', hrun, r1, r2, _⟩ := run_append_own (P := P) w base t o.type e i z sz bytes ht hi hz0 hz1 hz2 hzs hsz v xs.length (flatC c xs) hown ⟨b, 0, none⟩ 1 cp (flatC c [y]) (by rw [hfl]; simp [hc])
    (by
      intro j u hj
      rw [hfl] at hj
      have ea : (⟨b, 0, none⟩ : Addr).add j = ⟨b, j, none⟩ := by unfold Addr.add; by_cases h : j = 0 <;> simp [h]
      rw [ea, hb.cells j]
      simpa using hj) (flatC_one h1 [y]) h63 hbytes hbase
  unfold Oper.wp
  simp [execOp, hop, resolve, invoke, builtin, hs, hx, hrun, Result.andThen]
  refine hK v' w' ?_ r2
  unfold Own
  rw [flatC_append, List.length_append]
  exact r1

theorem Own.free {α : Type} {e : TypeId} {sz : Nat} {c : α → Array Value} {w : World} {base b cap n : Nat} {xs : List α} (h : Own e sz c w base (.slice (Option.some ⟨b, 0, none⟩) n cap) xs) : base ≤ b ∧ b < w.heap.size ∧ ∀ k, w.frozen? ⟨b, k, none⟩ = false := by
  obtain ⟨_, ⟨e, _⟩ | ⟨b', cp, cur, e, hb, hh, _⟩⟩ := h
  · simp at e
  · simp only [Value.slice.injEq, Option.some.injEq, Addr.mk.injEq] at e
    obtain ⟨⟨rfl, -⟩, -, -⟩ := e
    have hlt : b < w.heap.size := by
      rcases Nat.lt_or_ge b w.heap.size with hlt | hge
      · exact hlt
      · rw [Array.getElem?_eq_none hge] at hh; cases hh
    exact ⟨hb, hlt, fun k => by simp [World.frozen?, hh]⟩
theorem Blk.grown {w w' : World} {b : Nat} {C : Array Value} {row : Option Nat} (h : Blk w b C) (hg : w.grownBy w' row) (hr : ∀ k, row = some k → k ≠ b) : Blk w' b C := by
  have e := hg.block b h.lt (fun e => hr b e.symm rfl)
  exact ⟨Nat.lt_of_lt_of_le h.lt hg.size, fun k => (World.cell?_of_block (w := w) e).trans (h.cells k), fun k => (World.frozen?_of_block (w := w) e).trans (h.frozens k)⟩

theorem putC_far {b c j : Nat} (h : b ≠ c) : ∀ (Ls : List Value) (w : World) (k : Nat), (putC w b k Ls).cell? ⟨c, j, none⟩ = w.cell? ⟨c, j, none⟩
  | [], _, _ => rfl
  | v :: r, w, k => (putC_far h r (w.setCell ⟨b, k, none⟩ v) (k + 1)).trans (setCell_other (.inl h) v)
theorem putC_ahead {b j : Nat} : ∀ (Ls : List Value) (w : World) (k : Nat), j < k → (putC w b k Ls).cell? ⟨b, j, none⟩ = w.cell? ⟨b, j, none⟩
  | [], _, _, _ => rfl
  | v :: r, w, k, h => (putC_ahead r (w.setCell ⟨b, k, none⟩ v) (k + 1) (by omega)).trans (setCell_other (.inr (by omega)) v)
theorem putC_at {b : Nat} : ∀ (Ls : List Value) (w : World) (k : Nat), (∀ i, i < Ls.length → ∃ u, w.cell? ⟨b, k + i, none⟩ = some u) → ∀ i, i < Ls.length → (putC w b k Ls).cell? ⟨b, k + i, none⟩ = Ls[i]?
  | [], _, _, _, i, hi => by simp at hi
  | v :: r, w, k, h, 0, _ => by
    obtain ⟨u, hu⟩ := h 0 (by simp)
    exact (putC_ahead r (w.setCell ⟨b, k, none⟩ v) (k + 1) (by omega)).trans (by simpa using setCell_same (u := u) (by simpa using hu) v)
  | v :: r, w, k, h, i + 1, hi => by
    have ih := putC_at r (w.setCell ⟨b, k, none⟩ v) (k + 1) (fun j hj => by
      obtain ⟨u, hu⟩ := h (j + 1) (by simp; omega)
      exact ⟨u, by rw [setCell_other (.inr (by omega)), show k + 1 + j = k + (j + 1) by omega]; exact hu⟩) i (by simpa using hi)
    rw [show k + 1 + i = k + (i + 1) by omega] at ih
    simpa [putC] using ih
theorem drew_cell (w : World) (a : Addr) : w.drew.cell? a = w.cell? a := rfl
theorem swap_cells {w : World} {b L : Nat} {A B : List Value} (hne : L < b) (hc : ∀ i, i < 9 → ∃ u, w.cell? ⟨b, i, none⟩ = some u) (hB : B.length = 9) :
    (putC (putC w b 9 A) b 0 B).drew.cell? ⟨L, 0, none⟩ = w.cell? ⟨L, 0, none⟩ ∧ ∀ i, i < 9 → (putC (putC w b 9 A) b 0 B).drew.cell? ⟨b, i, none⟩ = B[i]? := by
  refine ⟨?_, fun i hi => ?_⟩
  · rw [drew_cell, putC_far (by omega), putC_far (by omega)]
  · have := putC_at (b := b) B (putC w b 9 A) 0 (fun j hj => by
      obtain ⟨u, hu⟩ := hc j (by omega)
      exact ⟨u, by rw [putC_ahead _ _ _ (by omega), Nat.zero_add]; exact hu⟩) i (by omega)
    rw [Nat.zero_add] at this
    rw [drew_cell]
    exact this
theorem swap_far {w : World} {b L j : Nat} {A B : List Value} (hne : L < b) : (putC (putC w b 9 A) b 0 B).drew.cell? ⟨L, j, none⟩ = w.cell? ⟨L, j, none⟩ := by
  rw [drew_cell, putC_far (by omega), putC_far (by omega)]
theorem swap_keeps {W0 w : World} {b : Nat} (A B : List Value) (k : Keeps W0 w) (hb : W0.heap.size ≤ b) : Keeps W0 (putC (putC w b 9 A) b 0 B).drew :=
  (Keeps.putC (b := b) hb B 0 (Keeps.putC (b := b) hb A 9 k)).drew
end Go.Proofs.Ytglemedcnapneaa
