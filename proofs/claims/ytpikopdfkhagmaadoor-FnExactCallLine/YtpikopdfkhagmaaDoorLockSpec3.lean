/-
  Locks: contracts of the model's functions that make rows.
-/
import Derived.Test.YtpikopdfkhagmaaDoorPutC
import Derived.Test.YtpikopdfkhagmaaDoorHeap
namespace Go.Proofs.YtpikopdfkhagmaaDoor
open Go.RowKit
variable {p : Bool}
attribute [local go_sem] Keeps.refl Keeps.alloc Keeps.drew Keeps.drewN

/-- What an append of elements that lie somewhere onto a row of one's own answers: the row is where it was, or in a new block. -/
theorem run_push {α : Type} {P : Program} (w : World) (base : Nat) (t ty e : TypeId) (z : Value) (sz bytes : Nat) (c : α → Array Value) (ht : P.underlying t = some (.slice e)) (hinfo : (P.info? e).map (fun i => (i.zero, i.size, i.bytes)) = some (some z, sz, bytes))
    (hzs : z.cells.size = sz) (hsz : 0 < sz) (hc : ∀ x, (c x).size = sz) (h1 : ∀ x, ∀ u ∈ (c x).toList, u.oneCell' = true)
    (v : Value) (xs : List α) (hown : Own e sz c w base v xs) (hbase : base ≤ w.heap.size)
    (ys : List α) (b off cp : Nat) (hl : Lies sz c w (some ⟨b, off, none⟩) ys)
    (h63 : xs.length + ys.length ≤ maxLen) (hbytes : (xs.length + ys.length) * bytes ≤ 140737488355328) :
    ∃ v' w', (Builtin.append_ #[t, t] ty #[v, .slice (some ⟨b, off, none⟩) ys.length cp]).run P w = .ok v' w' ∧ Own e sz c w' base v' (xs ++ ys) ∧ w.grownBy w' v.ownBlock ∧ ∀ k, v'.ownBlock = some k → v.ownBlock = some k ∨ k = w.heap.size := by
  obtain ⟨i, hi, hzz⟩ := Option.map_eq_some_iff.1 hinfo
  simp only [Prod.mk.injEq] at hzz
  obtain ⟨hz0, hz1, hz2⟩ := hzz
  have hnews : ∀ j u, (flatC c ys)[j]? = some u → w.cell? ((⟨b, off, none⟩ : Addr).add j) = some u := by
    intro j u hj
    have hjl : j < ys.length * sz := by
      have := flatC_length hc ys
      rcases Nat.lt_or_ge j (ys.length * sz) with h | h
      · exact h
      · rw [List.getElem?_eq_none (by omega)] at hj; cases hj
    have hq : j / sz < ys.length := Nat.div_lt_of_lt_mul (by rw [Nat.mul_comm]; exact hjl)
    have hm : j % sz < sz := Nat.mod_lt _ hsz
    have hjj : j / sz * sz + j % sz = j := by rw [Nat.mul_comm]; exact Nat.div_add_mod j sz
    have h2 := flatC_at hc ys (j / sz) ys[j / sz] (List.getElem?_eq_getElem hq) (j % sz) hm
    rw [hjj, hj] at h2
    rcases hl with hl | ⟨b', off', e', hb', hl⟩
    · rw [hl] at hq; simp at hq
    · simp only [Option.some.injEq, Addr.mk.injEq] at e'
      obtain ⟨rfl, rfl, -⟩ := e'
      have h3 := hl (j / sz) ys[j / sz] (List.getElem?_eq_getElem hq) (j % sz) hm
      have ea : (⟨b, off, none⟩ : Addr).add j = ⟨b, off + j, none⟩ := by unfold Addr.add; by_cases h : j = 0 <;> simp [h]
      rw [ea, ← hjj, ← Nat.add_assoc, h3, ← h2]
  obtain ⟨v', w', hrun, r1, r2, r3⟩ := run_append_own (P := P) w base t ty e i z sz bytes ht hi hz0 hz1 hz2 hzs hsz v xs.length (flatC c xs) hown ⟨b, off, none⟩ ys.length cp (flatC c ys) (flatC_length hc ys) hnews (flatC_one h1 ys) h63 hbytes hbase
  refine ⟨v', w', hrun, by unfold Own; rw [flatC_append, List.length_append]; exact r1, r2, fun k hk => ?_⟩
  subst hz1
  subst hz2
  have hsm : xs.length + ys.length ≤ 9223372036854775807 := by simp only [maxLen] at h63; omega
  have hown' := hown
  rcases hown'.2 with ⟨rfl, hx0⟩ | ⟨g, cap, cur, rfl, hbg, hg, hnc, hcm, hcs, htake⟩
  · by_cases hm : ys.length = 0
    · have := r3.2 ⟨rfl, hm⟩
      rw [this] at hk
      simp [Value.ownBlock] at hk
    · have hr := run_append_nil (P := P) w t ty e i z ht hi hz0 ⟨b, off, none⟩ ys.length cp (flatC c ys) (flatC_length hc ys) hnews (by omega) (by omega) (by have hb := hbytes; rw [hx0, Nat.zero_add] at hb; omega)
      rw [hr] at hrun
      simp only [Result.ok.injEq] at hrun
      rw [← hrun.1] at hk
      simp [Value.ownBlock] at hk
      exact .inr hk.symm
  · by_cases hroom : xs.length + ys.length ≤ cap
    · obtain ⟨w2, hr, _, _⟩ := run_append_fits (P := P) w base t ty e i i.size ht hi rfl g xs.length cap (flatC c xs) hown ⟨b, off, none⟩ ys.length cp (flatC c ys) (flatC_length hc ys) hnews (flatC_one h1 ys) hroom
      rw [hr] at hrun
      simp only [Result.ok.injEq] at hrun
      rw [← hrun.1] at hk
      exact .inl hk
    · have holds : ∀ j u, (flatC c xs)[j]? = some u → w.cell? ((⟨g, 0, none⟩ : Addr).add j) = some u := World.ownsRow.cells hown (g := g) rfl
      have hr := run_append_grow (P := P) w t ty e i z ht hi hz0 ⟨g, 0, none⟩ xs.length cap (flatC c xs) hown.1 holds ⟨b, off, none⟩ ys.length cp (flatC c ys) (flatC_length hc ys) hnews (by omega) (by omega) (growslice_fits (by omega) hbytes)
      rw [hr] at hrun
      simp only [Result.ok.injEq] at hrun
      rw [← hrun.1] at hk
      simp [Value.ownBlock] at hk
      exact .inr hk.symm
/-- The same, as a step of a region that draws its order. -/
theorem step_pushAll {α : Type} {P : Program} {ops : Array Oper} {o : Oper} {a : Act} {w : World} {K : Act → World → Prop} {Q : Exit → Act → World → Prop} {E : Prop}
    (hg : o.guard = none) (s x : Operand) (t : TypeId) (hop : o.op = Op.call { callee := Callee.builtin Builtin.append, args := #[s, x], argTypes := #[t, t] })
    (base : Nat) (e : TypeId) (z : Value) (sz bytes : Nat) (c : α → Array Value) (ht : P.underlying t = some (.slice e)) (hinfo : (P.info? e).map (fun i => (i.zero, i.size, i.bytes)) = some (some z, sz, bytes))
    (hzs : z.cells.size = sz) (hsz : 0 < sz) (hc : ∀ x, (c x).size = sz) (h1 : ∀ x, ∀ u ∈ (c x).toList, u.oneCell' = true)
    (v : Value) (xs : List α) (hs : a.eval s = v) (hown : Own e sz c w base v xs) (hbase : base ≤ w.heap.size)
    (ys : List α) (b off cp : Nat) (hl : Lies sz c w (some ⟨b, off, none⟩) ys) (hx : a.eval x = .slice (some ⟨b, off, none⟩) ys.length cp)
    (h63 : xs.length + ys.length ≤ maxLen) (hbytes : (xs.length + ys.length) * bytes ≤ 140737488355328)
    (hK : ∀ v' w', Own e sz c w' base v' (xs ++ ys) → w.grownBy w' v.ownBlock → (∀ k, v'.ownBlock = some k → v.ownBlock = some k ∨ k = w.heap.size) → K (a.put o.dst v') w') :
    if Region.wanted o (yielded ops a.tmps) = true then Oper.wp P o a w K Q else E := by
  have hw : Region.wanted o (yielded ops a.tmps) = true := by simp [Region.wanted, hg]
  rw [if_pos hw]
  obtain ⟨v', w', hrun, r1, r2, r3⟩ := run_push (P := P) w base t o.type e z sz bytes c ht hinfo hzs hsz hc h1 v xs hown hbase ys b off cp hl h63 hbytes
  unfold Oper.wp
  simp [execOp, hop, resolve, invoke, builtin, hs, hx, hrun, Result.andThen]
  exact hK v' w' r1 r2 r3
end Go.Proofs.YtpikopdfkhagmaaDoor
