/-
  A row is copied: append onto an empty row of one's own.
-/
import Derived.Test.YthpdlbcdbncnhaaGreatDoorGSys1
import Derived.Test.YthpdlbcdbncnhaaGreatDoorGLock2
namespace Go.Proofs.YthpdlbcdbncnhaaGreatDoor
open Go.RowKit
theorem qea {α : Type} {P : Program} {w : World} {ops : Array Oper} {rest : List Oper} {o : Oper} {a : Act} {Q : Exit -> Act -> World -> Prop} (hgd : o.guard = none) (s x : Operand) (t : TypeId)
  (hop : o.op = .call { callee := .builtin .append, args := #[s, x], argTypes := #[t, t] })
  (base : Nat) (e : TypeId) (z : Value) (sz bytes : Nat) (c : α -> Array Value) (ht : P.underlying t = some (.slice e)) (hinfo : (P.info? e).map (fun i => (i.zero, i.size, i.bytes)) = some (some z, sz, bytes))
  (hzs : z.cells.size = sz) (hsz : 0 < sz) (hc : ∀ x, (c x).size = sz) (h1 : ∀ x, ∀ u ∈ (c x).toList, u.oneCell' = true)
  (v : Value) (hs : a.eval s = v) (hown : Own e sz c w base v []) (hbase : base <= w.heap.size)
  (ys : List α) (r : Rw) (hpl : Plain w r.a r.n r.cap) (hl : Lies sz c w r.a ys) (hn : ys.length = r.n) (hx : a.eval x = .slice r.a r.n r.cap)
  (h63 : ys.length <= 2097152) (hbytes : bytes <= 1000)
  (h : ∀ v' w', Own e sz c w' base v' ys -> w.grownBy w' v.ownBlock -> (∀ k, v'.ownBlock = some k -> v.ownBlock = some k ∨ k = w.heap.size) -> wpList P ops Q rest (a.put o.dst v') w') : wpList P ops Q (o :: rest) a w := by
 refine wpList_plain hgd fun K hK => ?_
 rcases hpl with ⟨e1, e2, e3⟩ | ⟨b, off, e1, hb, hle⟩
 ·have hy : ys = [] := List.eq_nil_of_length_eq_zero (hn.trans e2)
  subst hy
  rw [e1, e2, e3] at hx
  obtain ⟨i, hi, hzz⟩ := Option.map_eq_some_iff.1 hinfo
  have hrun := run_append_owned_none (P := P) w base t o.type e i sz ht hi v ([] : List α).length (qap c ([] : List α)) hown
  unfold Oper.wp
  simp [execOp, hop, resolve, invoke, builtin, hs, hx, hrun, Result.andThen]
  exact hK _ _ (h v w hown (World.grownBy.refl w v.ownBlock) fun k e => .inl e)
 ·rw [e1, <- hn] at hx
  rw [e1] at hl
  have hb2 : (0 + ys.length) * bytes <= 140737488355328 := by
   have : ys.length * bytes <= 2097152 * 1000 := Nat.mul_le_mul h63 hbytes
   rw [Nat.zero_add]; omega
  obtain ⟨v', w', hrun, r1, r2, r3⟩ := qek (P := P) w base t o.type e z sz bytes c ht hinfo hzs hsz hc h1 v [] hown hbase ys b off r.cap hl (by simp [maxLen]; omega) hb2
  unfold Oper.wp
  simp [execOp, hop, resolve, invoke, builtin, hs, hx, hrun, Result.andThen]
  exact hK _ _ (h v' w' (by simpa using r1) r2 r3)
end Go.Proofs.YthpdlbcdbncnhaaGreatDoor
