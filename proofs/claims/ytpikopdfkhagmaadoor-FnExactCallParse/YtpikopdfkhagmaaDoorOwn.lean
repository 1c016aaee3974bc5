/-
  A row of one's own that grows by append: elements of one size, each told by its cells.
-/
import Derived.Test.YtpikopdfkhagmaaDoorLies
import Derived.Deep.AppendLies
import Derived.Laws.OwnMore
namespace Go.Proofs.YtpikopdfkhagmaaDoor
open Go.RowKit

/-- The cells of a list, one element behind the other. -/
def flatC {α : Type} (c : α → Array Value) (xs : List α) : List Value := xs.flatMap fun x => (c x).toList
theorem flatC_append {α : Type} (c : α → Array Value) (xs ys : List α) : flatC c (xs ++ ys) = flatC c xs ++ flatC c ys := by simp [flatC]
theorem flatC_length {α : Type} {c : α → Array Value} {sz : Nat} (hc : ∀ x, (c x).size = sz) (xs : List α) : (flatC c xs).length = xs.length * sz := by
  induction xs with
  | nil => simp [flatC]
  | cons x r ih =>
    have e : flatC c (x :: r) = (c x).toList ++ flatC c r := rfl
    rw [e, List.length_append, ih, List.length_cons, Nat.add_mul, Nat.one_mul, Array.length_toList, hc, Nat.add_comm]
theorem flatC_at {α : Type} {c : α → Array Value} {sz : Nat} (hc : ∀ x, (c x).size = sz) : ∀ (xs : List α) (i : Nat) (x : α), xs[i]? = some x → ∀ k, k < sz → (flatC c xs)[i * sz + k]? = (c x)[k]?
  | [], i, x, h, _, _ => by simp at h
  | y :: r, 0, x, h, k, hk => by
    simp at h
    subst h
    have e : flatC c (y :: r) = (c y).toList ++ flatC c r := rfl
    rw [e, Nat.zero_mul, Nat.zero_add, List.getElem?_append_left (by simp [hc, hk])]
    simp
  | y :: r, i + 1, x, h, k, hk => by
    have ih := flatC_at hc r i x (by simpa using h) k hk
    have e : flatC c (y :: r) = (c y).toList ++ flatC c r := rfl
    rw [e, List.getElem?_append_right (by simp only [Array.length_toList, hc, Nat.add_mul, Nat.one_mul]; omega), ← ih]
    congr 1
    simp only [Array.length_toList, hc, Nat.add_mul, Nat.one_mul]
    omega
theorem flatC_one {α : Type} {c : α → Array Value} (h1 : ∀ x, ∀ u ∈ (c x).toList, u.oneCell' = true) (xs : List α) : ∀ u ∈ flatC c xs, u.oneCell' = true := by
  intro u hu
  simp only [flatC, List.mem_flatMap] at hu
  obtain ⟨x, _, hx⟩ := hu
  exact h1 x u hx

/-- The row v of xs is the call's own: it lies at or above base. -/
def Own {α : Type} (e : TypeId) (sz : Nat) (c : α → Array Value) (w : World) (base : Nat) (v : Value) (xs : List α) : Prop := w.ownsRow base e sz v xs.length (flatC c xs)
theorem Own.new {α : Type} (e : TypeId) (sz : Nat) (c : α → Array Value) (w : World) {base : Nat} (hb : base ≤ w.heap.size) : Own e sz c (w.alloc (.cells #[] e)) base (.slice (some ⟨w.heap.size, 0, none⟩) 0 0) [] :=
  World.ownsRow_made w #[] 0 hb (by simp) (by simp)
theorem Own.keeps {α : Type} {e : TypeId} {sz : Nat} {c : α → Array Value} {w w' : World} {base : Nat} {v : Value} {xs : List α} (h : Own e sz c w base v xs) (k : Keeps w w') : Own e sz c w' base v xs := by
  obtain ⟨h1, h2⟩ := h
  refine ⟨h1, ?_⟩
  rcases h2 with h2 | ⟨b, cap, cur, hv, hb, hh, r⟩
  · exact .inl h2
  · refine .inr ⟨b, cap, cur, hv, hb, ?_, r⟩
    have hlt : b < w.heap.size := by
      rcases Nat.lt_or_ge b w.heap.size with hlt | hge
      · exact hlt
      · rw [Array.getElem?_eq_none hge] at hh; cases hh
    rw [Below.block k b hlt]; exact hh
theorem Own.alloc {α : Type} {e : TypeId} {sz : Nat} {c : α → Array Value} {w : World} {base : Nat} {v : Value} {xs : List α} (h : Own e sz c w base v xs) (o : Obj) : Own e sz c (w.alloc o) base v xs := h.keeps ((Keeps.refl w).alloc o)
theorem Own.base {α : Type} {e : TypeId} {sz : Nat} {c : α → Array Value} {w : World} {base base' : Nat} {v : Value} {xs : List α} (h : Own e sz c w base v xs) (hb : base' ≤ base) : Own e sz c w base' v xs := by
  obtain ⟨h1, h2⟩ := h
  refine ⟨h1, ?_⟩
  rcases h2 with h2 | ⟨b, cap, cur, hv, hg, r⟩
  · exact .inl h2
  · exact .inr ⟨b, cap, cur, hv, Nat.le_trans hb hg, r⟩
/-- What it is as a slice, and what lies there. -/
theorem Own.slice {α : Type} {e : TypeId} {sz : Nat} {c : α → Array Value} {w : World} {base : Nat} {v : Value} {xs : List α} (h : Own e sz c w base v xs) (hc : ∀ x, (c x).size = sz) :
    ∃ a cap, v = .slice a xs.length cap ∧ Lies sz c w a xs ∧ xs.length ≤ cap ∧ cap ≤ maxLen := by
  obtain ⟨_, ⟨rfl, hn⟩ | ⟨b, cap, cur, rfl, hb, hh, hl, hm, hs, hx⟩⟩ := h
  · have : xs = [] := List.length_eq_zero_iff.1 hn
    subst this
    exact ⟨none, 0, rfl, .inl rfl, by simp, by simp⟩
  · have hlt : b < w.heap.size := by
      rcases Nat.lt_or_ge b w.heap.size with hlt | hge
      · exact hlt
      · rw [Array.getElem?_eq_none hge] at hh; cases hh
    refine ⟨_, cap, rfl, .inr ⟨b, 0, rfl, hlt, fun i x hx' k hk => ?_⟩, hl, hm⟩
    have hi : i < xs.length := by
      rcases Nat.lt_or_ge i xs.length with h | h
      · exact h
      · simp [List.getElem?_eq_none h] at hx'
    have hj : i * sz + k < xs.length * sz := by
      have h1 : (i + 1) * sz ≤ xs.length * sz := Nat.mul_le_mul_right sz hi
      rw [Nat.add_mul, Nat.one_mul] at h1
      omega
    rw [Nat.zero_add, ← flatC_at hc xs i x hx' k hk, ← hx]
    simp [World.cell?, hh, hj]
/-- Nothing old has turned where such a row has grown. -/
theorem Keeps.grown {w a b : World} {row : Option Nat} (h : Keeps w a) (hg : a.grownBy b row) (hr : ∀ k, row = some k → w.heap.size ≤ k) : Keeps w b :=
  ⟨hg.os.trans h.os, hg.tape.trans h.tape, hg.output.trans h.output, Nat.le_trans h.size hg.size, fun k hk => (hg.block k (Nat.lt_of_lt_of_le hk h.size) (fun e => by have := hr k e.symm; omega)).trans (h.block k hk)⟩

variable {P : Program}
/-- An append of elements that lie somewhere onto a row of one's own. -/
theorem wpList_pushAll {α : Type} {w : World} {ops : Array Oper} {rest : List Oper} {o : Oper} {a : Act} {Q : Exit → Act → World → Prop} (hgd : o.guard = none) (s x : Operand) (t : TypeId)
    (ho : o.op = .call { callee := .builtin .append, args := #[s, x], argTypes := #[t, t] })
    (W0 : World) (e : TypeId) (z : Value) (sz bytes : Nat) (c : α → Array Value) (ht : P.underlying t = some (.slice e)) (hinfo : (P.info? e).map (fun i => (i.zero, i.size, i.bytes)) = some (some z, sz, bytes))
    (hzs : z.cells.size = sz) (hsz : 0 < sz) (hc : ∀ x, (c x).size = sz) (h1 : ∀ x, ∀ u ∈ (c x).toList, u.oneCell' = true)
    (v : Value) (xs : List α) (hs : a.eval s = v) (hown : Own e sz c w W0.heap.size v xs) (hk : Keeps W0 w)
    (b off cp : Nat) (ys : List α) (hx : a.eval x = .slice (some ⟨b, off, none⟩) ys.length cp) (hl : Lies sz c w (some ⟨b, off, none⟩) ys)
    (h63 : xs.length + ys.length ≤ maxLen) (hbytes : (xs.length + ys.length) * bytes ≤ 140737488355328)
    (h : ∀ v' w', Own e sz c w' W0.heap.size v' (xs ++ ys) → Keeps W0 w' → (∀ k, k < w.heap.size → some k ≠ v.ownBlock → w'.heap[k]? = w.heap[k]?) → wpList P ops Q rest (a.put o.dst v') w') : wpList P ops Q (o :: rest) a w := by
  obtain ⟨i, hi, hzz⟩ := Option.map_eq_some_iff.1 hinfo
  simp only [Prod.mk.injEq] at hzz
  obtain ⟨hz0, hz1, hz2⟩ := hzz
  refine wpList_append_own _ hgd s x t ho W0.heap.size e i z sz bytes ht hi hz0 hz1 hz2 hzs hsz v xs.length (flatC c xs) hs hown ⟨b, off, none⟩ ys.length cp (flatC c ys) hx (flatC_length hc ys) ?_ (flatC_one h1 ys) h63 hbytes hk.size ?_
  · intro j u hj
    have hjl : j < ys.length * sz := by
      have := flatC_length hc ys
      rcases Nat.lt_or_ge j (ys.length * sz) with h | h
      · exact h
      · rw [List.getElem?_eq_none (by omega)] at hj; cases hj
    have hq : j / sz < ys.length := Nat.div_lt_of_lt_mul (by rw [Nat.mul_comm]; exact hjl)
    have hm : j % sz < sz := Nat.mod_lt _ hsz
    have hjj : j / sz * sz + j % sz = j := by rw [Nat.mul_comm]; exact Nat.div_add_mod j sz
    have h2 := flatC_at hc ys (j / sz) ys[j / sz] (List.getElem?_eq_getElem hq) (j % sz) hm
    rw [hjj, hj] at h2
    rcases hl with hl | ⟨b', off', e', hb', hl⟩
    · rw [hl] at hq; simp at hq
    · simp only [Option.some.injEq, Addr.mk.injEq] at e'
      obtain ⟨rfl, rfl, -⟩ := e'
      have h3 := hl (j / sz) ys[j / sz] (List.getElem?_eq_getElem hq) (j % sz) hm
      have ea : (⟨b, off, none⟩ : Addr).add j = ⟨b, off + j, none⟩ := by unfold Addr.add; by_cases h : j = 0 <;> simp [h]
      rw [ea, ← hjj, ← Nat.add_assoc, h3, ← h2]
  · intro v' w' ho' hg _
    refine h v' w' ?_ (hk.grown hg fun k hk' => (hown.lt k hk').1) hg.block
    unfold Own
    rw [flatC_append, List.length_append]
    exact ho'
/-- An append of one element that lies in a block of its own. -/
theorem wpList_push {α : Type} {w : World} {ops : Array Oper} {rest : List Oper} {o : Oper} {a : Act} {Q : Exit → Act → World → Prop} (hgd : o.guard = none) (s x : Operand) (t : TypeId)
    (ho : o.op = .call { callee := .builtin .append, args := #[s, x], argTypes := #[t, t] })
    (W0 : World) (e : TypeId) (z : Value) (sz bytes : Nat) (c : α → Array Value) (ht : P.underlying t = some (.slice e)) (hinfo : (P.info? e).map (fun i => (i.zero, i.size, i.bytes)) = some (some z, sz, bytes))
    (hzs : z.cells.size = sz) (hsz : 0 < sz) (hc : ∀ x, (c x).size = sz) (h1 : ∀ x, ∀ u ∈ (c x).toList, u.oneCell' = true)
    (v : Value) (xs : List α) (hs : a.eval s = v) (wo : World) (hown : Own e sz c wo W0.heap.size v xs) (hk : Keeps W0 wo) (ko : Keeps wo w)
    (y : α) (b cp : Nat) (hb : Blk w b (c y)) (hx : a.eval x = .slice (some ⟨b, 0, none⟩) 1 cp)
    (h63 : xs.length + 1 ≤ maxLen) (hbytes : (xs.length + 1) * bytes ≤ 140737488355328)
    (h : ∀ v' w', Own e sz c w' W0.heap.size v' (xs ++ [y]) → Keeps W0 w' → (∀ k, k < wo.heap.size → some k ≠ v.ownBlock → w'.heap[k]? = wo.heap[k]?) → wpList P ops Q rest (a.put o.dst v') w') : wpList P ops Q (o :: rest) a w := by
  refine wpList_pushAll hgd s x t ho W0 e z sz bytes c ht hinfo hzs hsz hc h1 v xs hs (hown.keeps ko) (hk.trans ko) b 0 cp [y] hx ?_ h63 hbytes (fun v' w' h2 h3 h4 => h v' w' h2 h3 fun k hk hne => ?_)
  · refine .inr ⟨_, _, rfl, hb.lt, fun i x hx k hk => ?_⟩
    cases i with
    | zero => simp at hx; subst hx; simpa using hb.cells k
    | succ i => simp at hx
  · rw [h4 k (Nat.lt_of_lt_of_le hk ko.size) hne]
    exact Below.block ko k hk
end Go.Proofs.YtpikopdfkhagmaaDoor
