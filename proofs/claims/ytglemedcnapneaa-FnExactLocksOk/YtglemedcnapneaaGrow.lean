/-
  A row of one's own that grows beside a cursor that turns.
-/
import Derived.Test.YtglemedcnapneaaOwn
import Derived.Test.YtglemedcnapneaaCur
namespace Go.Proofs.Ytglemedcnapneaa
open Go.RowKit

theorem Own.butG {α : Type} {e : TypeId} {sz : Nat} {c : α → Array Value} {g : Nat} {w w' : World} {base : Nat} {v : Value} {xs : List α} (h : Own e sz c w base v xs) (k : KeepsBut g w w') (hg : g < base) : Own e sz c w' base v xs := by
  obtain ⟨h1, h2⟩ := h
  refine ⟨h1, ?_⟩
  rcases h2 with h2 | ⟨b, cap, cur, hv, hb, hh, r⟩
  · exact .inl h2
  · refine .inr ⟨b, cap, cur, hv, hb, ?_, r⟩
    have hlt : b < w.heap.size := by
      rcases Nat.lt_or_ge b w.heap.size with hlt | hge
      · exact hlt
      · rw [Array.getElem?_eq_none hge] at hh; cases hh
    rw [k.block b hlt (by omega)]; exact hh
/-- A row that is not empty has an address. -/
theorem Own.some {α : Type} {e : TypeId} {sz : Nat} {c : α → Array Value} {w : World} {base : Nat} {v : Value} {xs : List α} (h : Own e sz c w base v xs) (hc : ∀ x, (c x).size = sz) (hx : 0 < xs.length) :
    ∃ b cap, v = .slice (Option.some ⟨b, 0, none⟩) xs.length cap ∧ Lies sz c w (Option.some ⟨b, 0, none⟩) xs ∧ xs.length ≤ cap ∧ cap ≤ maxLen := by
  obtain ⟨a, cap, rfl, l, h1, h2⟩ := h.slice hc
  obtain ⟨_, ⟨e, _⟩ | ⟨b, cp, cur, e, _⟩⟩ := h
  · simp only [Value.slice.injEq] at e; omega
  · simp only [Value.slice.injEq] at e
    obtain ⟨rfl, -, -⟩ := e
    exact ⟨b, cap, rfl, l, h1, h2⟩
theorem KeepsBut.grown {g : Nat} {w a b : World} {row : Option Nat} (h : KeepsBut g w a) (hg : a.grownBy b row) (hr : ∀ k, row = some k → w.heap.size ≤ k) : KeepsBut g w b :=
  ⟨hg.os.trans h.os, hg.tape.trans h.tape, hg.output.trans h.output, Nat.le_trans h.size hg.size, fun k hk hkg => (hg.block k (Nat.lt_of_lt_of_le hk h.size) (fun e => by have := hr k e.symm; omega)).trans (h.block k hk hkg)⟩
theorem Bytes.same {g : Nat} {w w' : World} {a : Option Addr} {n : Nat} (h : Bytes g w a n) (k : ∀ i, i ≤ g → w'.heap[i]? = w.heap[i]?) : Bytes g w' a n := by
  rcases h with h | ⟨b, off, rfl, hg, h⟩
  · exact .inl h
  · exact .inr ⟨b, off, rfl, hg, fun j hj => by obtain ⟨z, h0, h1, hc⟩ := h j hj; exact ⟨z, h0, h1, (World.cell?_of_block (w := w) (k b (by omega))).trans hc⟩⟩
/-- The cursor looks at no block above its own. -/
theorem Cur.same {w w' : World} {g : Nat} (h : Cur w g) (k : ∀ i, i ≤ g → w'.heap[i]? = w.heap[i]?) : Cur w' g := by
  obtain ⟨a, n, cap, i, h, c0, c1, c2, f1, f2, hi, hn, hb⟩ := h
  have e := k g (Nat.le_refl _)
  exact ⟨a, n, cap, i, h, (World.cell?_of_block (w := w) e).trans c0, (World.cell?_of_block (w := w) e).trans c1, (World.cell?_of_block (w := w) e).trans c2, (World.frozen?_of_block (w := w) e).trans f1, (World.frozen?_of_block (w := w) e).trans f2, hi, hn, hb.same k⟩
theorem Cur.grown {w w' : World} {g : Nat} {row : Option Nat} (h : Cur w g) (hg : w.grownBy w' row) (hr : ∀ k, row = some k → g < k) : Cur w' g := by
  have hl := h.lt
  exact h.same fun i hi => hg.block i (by omega) (fun e => by have := hr i e.symm; omega)

variable {P : Program}
/-- An append of one element that lies in a block of its own; what else there is may have turned. -/
theorem wpList_pushG {α : Type} {w : World} {ops : Array Oper} {rest : List Oper} {o : Oper} {a : Act} {Q : Exit → Act → World → Prop} (hgd : o.guard = none) (s x : Operand) (t : TypeId)
    (ho : o.op = .call { callee := .builtin .append, args := #[s, x], argTypes := #[t, t] })
    (base : Nat) (e : TypeId) (z : Value) (sz bytes : Nat) (c : α → Array Value) (ht : P.underlying t = some (.slice e)) (hinfo : (P.info? e).map (fun i => (i.zero, i.size, i.bytes)) = some (some z, sz, bytes))
    (hzs : z.cells.size = sz) (hsz : 0 < sz) (hc : ∀ x, (c x).size = sz) (h1 : ∀ x, ∀ u ∈ (c x).toList, u.oneCell' = true)
    (v : Value) (xs : List α) (hs : a.eval s = v) (hown : Own e sz c w base v xs) (hbase : base ≤ w.heap.size)
    (y : α) (b cp : Nat) (hb : Blk w b (c y)) (hx : a.eval x = .slice (some ⟨b, 0, none⟩) 1 cp)
    (h63 : xs.length + 1 ≤ maxLen) (hbytes : (xs.length + 1) * bytes ≤ 140737488355328)
    (h : ∀ v' w', Own e sz c w' base v' (xs ++ [y]) → w.grownBy w' v.ownBlock → (∀ k, v.ownBlock = some k → base ≤ k) → wpList P ops Q rest (a.put o.dst v') w') : wpList P ops Q (o :: rest) a w := by
  obtain ⟨i, hi, hzz⟩ := Option.map_eq_some_iff.1 hinfo
  simp only [Prod.mk.injEq] at hzz
  obtain ⟨hz0, hz1, hz2⟩ := hzz
  have hfl : flatC c [y] = (c y).toList := by simp [flatC]
  refine wpList_append_own _ hgd s x t ho base e i z sz bytes ht hi hz0 hz1 hz2 hzs hsz v xs.length (flatC c xs) hs hown ⟨b, 0, none⟩ 1 cp (flatC c [y]) hx (by rw [hfl]; simp [hc]) ?_ (flatC_one h1 [y]) h63 hbytes hbase ?_
  · intro j u hj
    rw [hfl] at hj
    have ea : (⟨b, 0, none⟩ : Addr).add j = ⟨b, j, none⟩ := by unfold Addr.add; by_cases h : j = 0 <;> simp [h]
    rw [ea, hb.cells]
    simpa using hj
  · intro v' w' ho' hg _
    refine h v' w' ?_ hg (fun k hk' => (hown.lt k hk').1)
    unfold Own
    rw [flatC_append, List.length_append]
    exact ho'
end Go.Proofs.Ytglemedcnapneaa
