/-
  A row of one's own that grows by append: elements of one size, each told by its cells.
  A row of one's own that grows beside a cursor that turns.
  Rows of numbers: the laws' own helpers over them.
  Rows of locks: each has its own row of those that wait.
-/
import Derived.Test.YtpikopdfkhagmaaGreatDoorCur
import Derived.Deep.AppendLies
import Derived.Laws.OwnMore
import Derived.Test.YtpikopdfkhagmaaGreatDoorLockPure2
namespace Go.Proofs.YtpikopdfkhagmaaGreatDoor
open Go.RowKit

/-- The cells of a list, one element behind the other. -/
def flatC {α : Type} (c : α → Array Value) (xs : List α) : List Value := xs.flatMap fun x => (c x).toList
theorem flatC_append {α : Type} (c : α → Array Value) (xs ys : List α) : flatC c (xs ++ ys) = flatC c xs ++ flatC c ys := by simp [flatC]
theorem flatC_length {α : Type} {c : α → Array Value} {sz : Nat} (hc : ∀ x, (c x).size = sz) (xs : List α) : (flatC c xs).length = xs.length * sz := by
  induction xs with
  | nil => simp [flatC]
  | cons x r ih =>
    have e : flatC c (x :: r) = (c x).toList ++ flatC c r := rfl
    rw [e, List.length_append, ih, List.length_cons, Nat.add_mul, Nat.one_mul, Array.length_toList, hc, Nat.add_comm]
theorem flatC_at {α : Type} {c : α → Array Value} {sz : Nat} (hc : ∀ x, (c x).size = sz) : ∀ (xs : List α) (i : Nat) (x : α), xs[i]? = some x → ∀ k, k < sz → (flatC c xs)[i * sz + k]? = (c x)[k]?
  | [], i, x, h, _, _ => by simp at h
  | y :: r, 0, x, h, k, hk => by
    simp at h
    subst h
    have e : flatC c (y :: r) = (c y).toList ++ flatC c r := rfl
    rw [e, Nat.zero_mul, Nat.zero_add, List.getElem?_append_left (by simp [hc, hk])]
    simp
  | y :: r, i + 1, x, h, k, hk => by
    have ih := flatC_at hc r i x (by simpa using h) k hk
    have e : flatC c (y :: r) = (c y).toList ++ flatC c r := rfl
    rw [e, List.getElem?_append_right (by simp only [Array.length_toList, hc, Nat.add_mul, Nat.one_mul]; omega), ← ih]
    congr 1
    simp only [Array.length_toList, hc, Nat.add_mul, Nat.one_mul]
    omega
theorem flatC_one {α : Type} {c : α → Array Value} (h1 : ∀ x, ∀ u ∈ (c x).toList, u.oneCell' = true) (xs : List α) : ∀ u ∈ flatC c xs, u.oneCell' = true := by
  intro u hu
  simp only [flatC, List.mem_flatMap] at hu
  obtain ⟨x, _, hx⟩ := hu
  exact h1 x u hx

/-- The row v of xs is the call's own: it lies at or above base. -/
def Own {α : Type} (e : TypeId) (sz : Nat) (c : α → Array Value) (w : World) (base : Nat) (v : Value) (xs : List α) : Prop := w.ownsRow base e sz v xs.length (flatC c xs)
theorem Own.new {α : Type} (e : TypeId) (sz : Nat) (c : α → Array Value) (w : World) {base : Nat} (hb : base ≤ w.heap.size) : Own e sz c (w.alloc (.cells #[] e)) base (.slice (some ⟨w.heap.size, 0, none⟩) 0 0) [] :=
  World.ownsRow_made w #[] 0 hb (by simp) (by simp)
theorem Own.keeps {α : Type} {e : TypeId} {sz : Nat} {c : α → Array Value} {w w' : World} {base : Nat} {v : Value} {xs : List α} (h : Own e sz c w base v xs) (k : Keeps w w') : Own e sz c w' base v xs := by
  obtain ⟨h1, h2⟩ := h
  refine ⟨h1, ?_⟩
  rcases h2 with h2 | ⟨b, cap, cur, hv, hb, hh, r⟩
  · exact .inl h2
  · refine .inr ⟨b, cap, cur, hv, hb, ?_, r⟩
    have hlt : b < w.heap.size := by
      rcases Nat.lt_or_ge b w.heap.size with hlt | hge
      · exact hlt
      · rw [Array.getElem?_eq_none hge] at hh; cases hh
    rw [Below.block k b hlt]; exact hh
theorem Own.alloc {α : Type} {e : TypeId} {sz : Nat} {c : α → Array Value} {w : World} {base : Nat} {v : Value} {xs : List α} (h : Own e sz c w base v xs) (o : Obj) : Own e sz c (w.alloc o) base v xs := h.keeps ((Keeps.refl w).alloc o)
theorem Own.base {α : Type} {e : TypeId} {sz : Nat} {c : α → Array Value} {w : World} {base base' : Nat} {v : Value} {xs : List α} (h : Own e sz c w base v xs) (hb : base' ≤ base) : Own e sz c w base' v xs := by
  obtain ⟨h1, h2⟩ := h
  refine ⟨h1, ?_⟩
  rcases h2 with h2 | ⟨b, cap, cur, hv, hg, r⟩
  · exact .inl h2
  · exact .inr ⟨b, cap, cur, hv, Nat.le_trans hb hg, r⟩
/-- What it is as a slice, and what lies there. -/
theorem Own.slice {α : Type} {e : TypeId} {sz : Nat} {c : α → Array Value} {w : World} {base : Nat} {v : Value} {xs : List α} (h : Own e sz c w base v xs) (hc : ∀ x, (c x).size = sz) :
    ∃ a cap, v = .slice a xs.length cap ∧ Lies sz c w a xs ∧ xs.length ≤ cap ∧ cap ≤ maxLen := by
  obtain ⟨_, ⟨rfl, hn⟩ | ⟨b, cap, cur, rfl, hb, hh, hl, hm, hs, hx⟩⟩ := h
  · have : xs = [] := List.length_eq_zero_iff.1 hn
    subst this
    exact ⟨none, 0, rfl, .inl rfl, by simp, by simp⟩
  · have hlt : b < w.heap.size := by
      rcases Nat.lt_or_ge b w.heap.size with hlt | hge
      · exact hlt
      · rw [Array.getElem?_eq_none hge] at hh; cases hh
    refine ⟨_, cap, rfl, .inr ⟨b, 0, rfl, hlt, fun i x hx' k hk => ?_⟩, hl, hm⟩
    have hi : i < xs.length := by
      rcases Nat.lt_or_ge i xs.length with h | h
      · exact h
      · simp [List.getElem?_eq_none h] at hx'
    have hj : i * sz + k < xs.length * sz := by
      have h1 : (i + 1) * sz ≤ xs.length * sz := Nat.mul_le_mul_right sz hi
      rw [Nat.add_mul, Nat.one_mul] at h1
      omega
    rw [Nat.zero_add, ← flatC_at hc xs i x hx' k hk, ← hx]
    simp [World.cell?, hh, hj]
/-- Nothing old has turned where such a row has grown. -/
theorem Keeps.grown {w a b : World} {row : Option Nat} (h : Keeps w a) (hg : a.grownBy b row) (hr : ∀ k, row = some k → w.heap.size ≤ k) : Keeps w b :=
  ⟨hg.os.trans h.os, hg.tape.trans h.tape, hg.output.trans h.output, Nat.le_trans h.size hg.size, fun k hk => (hg.block k (Nat.lt_of_lt_of_le hk h.size) (fun e => by have := hr k e.symm; omega)).trans (h.block k hk)⟩

variable {P : Program}
/-- An append of elements that lie somewhere onto a row of one's own. -/
theorem wpList_pushAll {α : Type} {w : World} {ops : Array Oper} {rest : List Oper} {o : Oper} {a : Act} {Q : Exit → Act → World → Prop} (hgd : o.guard = none) (s x : Operand) (t : TypeId)
    (ho : o.op = .call { callee := .builtin .append, args := #[s, x], argTypes := #[t, t] })
    (W0 : World) (e : TypeId) (z : Value) (sz bytes : Nat) (c : α → Array Value) (ht : P.underlying t = some (.slice e)) (hinfo : (P.info? e).map (fun i => (i.zero, i.size, i.bytes)) = some (some z, sz, bytes))
    (hzs : z.cells.size = sz) (hsz : 0 < sz) (hc : ∀ x, (c x).size = sz) (h1 : ∀ x, ∀ u ∈ (c x).toList, u.oneCell' = true)
    (v : Value) (xs : List α) (hs : a.eval s = v) (hown : Own e sz c w W0.heap.size v xs) (hk : Keeps W0 w)
    (b off cp : Nat) (ys : List α) (hx : a.eval x = .slice (some ⟨b, off, none⟩) ys.length cp) (hl : Lies sz c w (some ⟨b, off, none⟩) ys)
    (h63 : xs.length + ys.length ≤ maxLen) (hbytes : (xs.length + ys.length) * bytes ≤ 140737488355328)
    (h : ∀ v' w', Own e sz c w' W0.heap.size v' (xs ++ ys) → Keeps W0 w' → (∀ k, k < w.heap.size → some k ≠ v.ownBlock → w'.heap[k]? = w.heap[k]?) → wpList P ops Q rest (a.put o.dst v') w') : wpList P ops Q (o :: rest) a w := by
  obtain ⟨i, hi, hzz⟩ := Option.map_eq_some_iff.1 hinfo
  simp only [Prod.mk.injEq] at hzz
  obtain ⟨hz0, hz1, hz2⟩ := hzz
  refine wpList_append_own _ hgd s x t ho W0.heap.size e i z sz bytes ht hi hz0 hz1 hz2 hzs hsz v xs.length (flatC c xs) hs hown ⟨b, off, none⟩ ys.length cp (flatC c ys) hx (flatC_length hc ys) ?_ (flatC_one h1 ys) h63 hbytes hk.size ?_
  · intro j u hj
    have hjl : j < ys.length * sz := by
      have := flatC_length hc ys
      rcases Nat.lt_or_ge j (ys.length * sz) with h | h
      · exact h
      · rw [List.getElem?_eq_none (by omega)] at hj; cases hj
    have hq : j / sz < ys.length := Nat.div_lt_of_lt_mul (by rw [Nat.mul_comm]; exact hjl)
    have hm : j % sz < sz := Nat.mod_lt _ hsz
    have hjj : j / sz * sz + j % sz = j := by rw [Nat.mul_comm]; exact Nat.div_add_mod j sz
    have h2 := flatC_at hc ys (j / sz) ys[j / sz] (List.getElem?_eq_getElem hq) (j % sz) hm
    rw [hjj, hj] at h2
    rcases hl with hl | ⟨b', off', e', hb', hl⟩
    · rw [hl] at hq; simp at hq
    · simp only [Option.some.injEq, Addr.mk.injEq] at e'
      obtain ⟨rfl, rfl, -⟩ := e'
      have h3 := hl (j / sz) ys[j / sz] (List.getElem?_eq_getElem hq) (j % sz) hm
      have ea : (⟨b, off, none⟩ : Addr).add j = ⟨b, off + j, none⟩ := by unfold Addr.add; by_cases h : j = 0 <;> simp [h]
      rw [ea, ← hjj, ← Nat.add_assoc, h3, ← h2]
  · intro v' w' ho' hg _
    refine h v' w' ?_ (hk.grown hg fun k hk' => (hown.lt k hk').1) hg.block
    unfold Own
    rw [flatC_append, List.length_append]
    exact ho'
/-- An append of one element that lies in a block of its own. -/
theorem wpList_push {α : Type} {w : World} {ops : Array Oper} {rest : List Oper} {o : Oper} {a : Act} {Q : Exit → Act → World → Prop} (hgd : o.guard = none) (s x : Operand) (t : TypeId)
    (ho : o.op = .call { callee := .builtin .append, args := #[s, x], argTypes := #[t, t] })
    (W0 : World) (e : TypeId) (z : Value) (sz bytes : Nat) (c : α → Array Value) (ht : P.underlying t = some (.slice e)) (hinfo : (P.info? e).map (fun i => (i.zero, i.size, i.bytes)) = some (some z, sz, bytes))
    (hzs : z.cells.size = sz) (hsz : 0 < sz) (hc : ∀ x, (c x).size = sz) (h1 : ∀ x, ∀ u ∈ (c x).toList, u.oneCell' = true)
    (v : Value) (xs : List α) (hs : a.eval s = v) (wo : World) (hown : Own e sz c wo W0.heap.size v xs) (hk : Keeps W0 wo) (ko : Keeps wo w)
    (y : α) (b cp : Nat) (hb : Blk w b (c y)) (hx : a.eval x = .slice (some ⟨b, 0, none⟩) 1 cp)
    (h63 : xs.length + 1 ≤ maxLen) (hbytes : (xs.length + 1) * bytes ≤ 140737488355328)
    (h : ∀ v' w', Own e sz c w' W0.heap.size v' (xs ++ [y]) → Keeps W0 w' → (∀ k, k < wo.heap.size → some k ≠ v.ownBlock → w'.heap[k]? = wo.heap[k]?) → wpList P ops Q rest (a.put o.dst v') w') : wpList P ops Q (o :: rest) a w := by
  refine wpList_pushAll hgd s x t ho W0 e z sz bytes c ht hinfo hzs hsz hc h1 v xs hs (hown.keeps ko) (hk.trans ko) b 0 cp [y] hx ?_ h63 hbytes (fun v' w' h2 h3 h4 => h v' w' h2 h3 fun k hk hne => ?_)
  · refine .inr ⟨_, _, rfl, hb.lt, fun i x hx k hk => ?_⟩
    cases i with
    | zero => simp at hx; subst hx; simpa using hb.cells k
    | succ i => simp at hx
  · rw [h4 k (Nat.lt_of_lt_of_le hk ko.size) hne]
    exact Below.block ko k hk
end Go.Proofs.YtpikopdfkhagmaaGreatDoor
namespace Go.Proofs.YtpikopdfkhagmaaGreatDoor
open Go.RowKit

theorem Own.butG {α : Type} {e : TypeId} {sz : Nat} {c : α → Array Value} {g : Nat} {w w' : World} {base : Nat} {v : Value} {xs : List α} (h : Own e sz c w base v xs) (k : KeepsBut g w w') (hg : g < base) : Own e sz c w' base v xs := by
  obtain ⟨h1, h2⟩ := h
  refine ⟨h1, ?_⟩
  rcases h2 with h2 | ⟨b, cap, cur, hv, hb, hh, r⟩
  · exact .inl h2
  · refine .inr ⟨b, cap, cur, hv, hb, ?_, r⟩
    have hlt : b < w.heap.size := by
      rcases Nat.lt_or_ge b w.heap.size with hlt | hge
      · exact hlt
      · rw [Array.getElem?_eq_none hge] at hh; cases hh
    rw [k.block b hlt (by omega)]; exact hh
/-- A row that is not empty has an address. -/
theorem Own.some {α : Type} {e : TypeId} {sz : Nat} {c : α → Array Value} {w : World} {base : Nat} {v : Value} {xs : List α} (h : Own e sz c w base v xs) (hc : ∀ x, (c x).size = sz) (hx : 0 < xs.length) :
    ∃ b cap, v = .slice (Option.some ⟨b, 0, none⟩) xs.length cap ∧ Lies sz c w (Option.some ⟨b, 0, none⟩) xs ∧ xs.length ≤ cap ∧ cap ≤ maxLen := by
  obtain ⟨a, cap, rfl, l, h1, h2⟩ := h.slice hc
  obtain ⟨_, ⟨e, _⟩ | ⟨b, cp, cur, e, _⟩⟩ := h
  · simp only [Value.slice.injEq] at e; omega
  · simp only [Value.slice.injEq] at e
    obtain ⟨rfl, -, -⟩ := e
    exact ⟨b, cap, rfl, l, h1, h2⟩
theorem KeepsBut.grown {g : Nat} {w a b : World} {row : Option Nat} (h : KeepsBut g w a) (hg : a.grownBy b row) (hr : ∀ k, row = some k → w.heap.size ≤ k) : KeepsBut g w b :=
  ⟨hg.os.trans h.os, hg.tape.trans h.tape, hg.output.trans h.output, Nat.le_trans h.size hg.size, fun k hk hkg => (hg.block k (Nat.lt_of_lt_of_le hk h.size) (fun e => by have := hr k e.symm; omega)).trans (h.block k hk hkg)⟩
theorem Bytes.same {g : Nat} {w w' : World} {a : Option Addr} {n : Nat} (h : Bytes g w a n) (k : ∀ i, i ≤ g → w'.heap[i]? = w.heap[i]?) : Bytes g w' a n := by
  rcases h with h | ⟨b, off, rfl, hg, h⟩
  · exact .inl h
  · exact .inr ⟨b, off, rfl, hg, fun j hj => by obtain ⟨z, h0, h1, hc⟩ := h j hj; exact ⟨z, h0, h1, (World.cell?_of_block (w := w) (k b (by omega))).trans hc⟩⟩
/-- The cursor looks at no block above its own. -/
theorem Cur.same {w w' : World} {g : Nat} (h : Cur w g) (k : ∀ i, i ≤ g → w'.heap[i]? = w.heap[i]?) : Cur w' g := by
  obtain ⟨a, n, cap, i, h, c0, c1, c2, f1, f2, hi, hn, hb⟩ := h
  have e := k g (Nat.le_refl _)
  exact ⟨a, n, cap, i, h, (World.cell?_of_block (w := w) e).trans c0, (World.cell?_of_block (w := w) e).trans c1, (World.cell?_of_block (w := w) e).trans c2, (World.frozen?_of_block (w := w) e).trans f1, (World.frozen?_of_block (w := w) e).trans f2, hi, hn, hb.same k⟩
theorem Cur.grown {w w' : World} {g : Nat} {row : Option Nat} (h : Cur w g) (hg : w.grownBy w' row) (hr : ∀ k, row = some k → g < k) : Cur w' g := by
  have hl := h.lt
  exact h.same fun i hi => hg.block i (by omega) (fun e => by have := hr i e.symm; omega)

variable {P : Program}
/-- An append of one element that lies in a block of its own; what else there is may have turned. -/
theorem wpList_pushG {α : Type} {w : World} {ops : Array Oper} {rest : List Oper} {o : Oper} {a : Act} {Q : Exit → Act → World → Prop} (hgd : o.guard = none) (s x : Operand) (t : TypeId)
    (ho : o.op = .call { callee := .builtin .append, args := #[s, x], argTypes := #[t, t] })
    (base : Nat) (e : TypeId) (z : Value) (sz bytes : Nat) (c : α → Array Value) (ht : P.underlying t = some (.slice e)) (hinfo : (P.info? e).map (fun i => (i.zero, i.size, i.bytes)) = some (some z, sz, bytes))
    (hzs : z.cells.size = sz) (hsz : 0 < sz) (hc : ∀ x, (c x).size = sz) (h1 : ∀ x, ∀ u ∈ (c x).toList, u.oneCell' = true)
    (v : Value) (xs : List α) (hs : a.eval s = v) (hown : Own e sz c w base v xs) (hbase : base ≤ w.heap.size)
    (y : α) (b cp : Nat) (hb : Blk w b (c y)) (hx : a.eval x = .slice (some ⟨b, 0, none⟩) 1 cp)
    (h63 : xs.length + 1 ≤ maxLen) (hbytes : (xs.length + 1) * bytes ≤ 140737488355328)
    (h : ∀ v' w', Own e sz c w' base v' (xs ++ [y]) → w.grownBy w' v.ownBlock → (∀ k, v.ownBlock = some k → base ≤ k) → wpList P ops Q rest (a.put o.dst v') w') : wpList P ops Q (o :: rest) a w := by
  obtain ⟨i, hi, hzz⟩ := Option.map_eq_some_iff.1 hinfo
  simp only [Prod.mk.injEq] at hzz
  obtain ⟨hz0, hz1, hz2⟩ := hzz
  have hfl : flatC c [y] = (c y).toList := by simp [flatC]
  refine wpList_append_own _ hgd s x t ho base e i z sz bytes ht hi hz0 hz1 hz2 hzs hsz v xs.length (flatC c xs) hs hown ⟨b, 0, none⟩ 1 cp (flatC c [y]) hx (by rw [hfl]; simp [hc]) ?_ (flatC_one h1 [y]) h63 hbytes hbase ?_
  · intro j u hj
    rw [hfl] at hj
    have ea : (⟨b, 0, none⟩ : Addr).add j = ⟨b, j, none⟩ := by unfold Addr.add; by_cases h : j = 0 <;> simp [h]
    rw [ea, hb.cells]
    simpa using hj
  · intro v' w' ho' hg _
    refine h v' w' ?_ hg (fun k hk' => (hown.lt k hk').1)
    unfold Own
    rw [flatC_append, List.length_append]
    exact ho'
end Go.Proofs.YtpikopdfkhagmaaGreatDoor
namespace Go.Proofs.YtpikopdfkhagmaaGreatDoor
open Go.RowKit
attribute [local go_sem] Keeps.refl Keeps.alloc Keeps.drew Keeps.drewN

theorem some_in {α : Type} {xs : List α} {k : Nat} (h : k < xs.length) : ∃ x, xs[k]? = some x := ⟨xs[k], List.getElem?_eq_getElem h⟩
theorem lt_of_some {α : Type} {xs : List α} {k : Nat} {x : α} (h : xs[k]? = some x) : k < xs.length := by
  rcases Nat.lt_or_ge k xs.length with h' | h'
  · exact h'
  · rw [List.getElem?_eq_none h'] at h; cases h
/-- The cells of a number. -/
abbrev ic (x : Int) : Array Value := #[.int .i64 x]
theorem ic_size (x : Int) : (ic x).size = 1 := rfl
theorem ic_one (x : Int) : ∀ u ∈ (ic x).toList, u.oneCell' = true := by
  intro u hu
  simp at hu
  subst hu
  rfl
/-- The numbers xs lie there. -/
def Ns (w : World) (a : Option Addr) (xs : List Int) : Prop := xs = [] ∨ ∃ b off, a = some ⟨b, off, none⟩ ∧ b < w.heap.size ∧ ∀ i x, xs[i]? = some x → w.cell? ⟨b, off + i, none⟩ = some (.int .i64 x)
theorem Ns.keeps {w w' : World} {a : Option Addr} {xs : List Int} (h : Ns w a xs) (k : Keeps w w') : Ns w' a xs := by
  rcases h with h | ⟨b, off, rfl, hb, h⟩
  · exact .inl h
  · exact .inr ⟨b, off, rfl, Nat.lt_of_lt_of_le hb k.size, fun i x hx => (k.cells _ _ hb).trans (h i x hx)⟩
theorem Ns.at {w : World} {a : Option Addr} {xs : List Int} (h : Ns w a xs) {i : Nat} {x : Int} (hx : xs[i]? = some x) :
    ∃ b off, a = some ⟨b, off, none⟩ ∧ ∀ w', Keeps w w' → w'.cell? ⟨b, off + i, none⟩ = some (.int .i64 x) := by
  rcases h with rfl | ⟨b, off, rfl, hb, h⟩
  · simp at hx
  · exact ⟨b, off, rfl, fun w' k => (k.cells _ _ hb).trans (h i x hx)⟩
theorem Ns.of_lies {w : World} {a : Option Addr} {xs : List Int} (h : Lies 1 ic w a xs) : Ns w a xs := by
  rcases h with h | ⟨b, off, rfl, hb, h⟩
  · exact .inl h
  · exact .inr ⟨b, off, rfl, hb, fun i x hx => by simpa using h i x hx 0 (by omega)⟩
theorem Ns.lies {w : World} {a : Option Addr} {xs : List Int} (h : Ns w a xs) : Lies 1 ic w a xs := by
  rcases h with h | ⟨b, off, rfl, hb, h⟩
  · exact .inl h
  · refine .inr ⟨b, off, rfl, hb, fun i x hx k hk => ?_⟩
    obtain rfl : k = 0 := by omega
    simpa using h i x hx
/-- A row of numbers of one's own. -/
abbrev OwnN (w : World) (base : Nat) (v : Value) (xs : List Int) : Prop := Own 3 1 ic w base v xs
theorem flatC_ic (xs : List Int) : flatC ic xs = xs.map fun x => .int .i64 x := by
  induction xs with
  | nil => rfl
  | cons x r ih =>
    show (ic x).toList ++ flatC ic r = _
    rw [ih]; rfl
theorem OwnN.ns {w : World} {base : Nat} {v : Value} {xs : List Int} (h : OwnN w base v xs) : ∃ a cap, v = .slice a xs.length cap ∧ Ns w a xs ∧ xs.length ≤ cap ∧ cap ≤ maxLen := by
  obtain ⟨a, cap, e, l, h1, h2⟩ := h.slice ic_size
  exact ⟨a, cap, e, .of_lies l, h1, h2⟩
theorem OwnN.of {w : World} {base b cap : Nat} {xs : List Int} {ys : List Value} (h : w.ownsRow base 3 1 (.slice (some ⟨b, 0, none⟩) xs.length cap) xs.length ys) (hy : ∀ (j : Nat) (x : Int), xs[j]? = some x → ys[j]? = some (.int .i64 x)) : OwnN w base (.slice (some ⟨b, 0, none⟩) xs.length cap) xs := by
  have e : ys = flatC ic xs := by
    rw [flatC_ic]
    have hl : ys.length = xs.length := by have := h.1; omega
    apply List.ext_getElem?
    intro j
    rcases Nat.lt_or_ge j xs.length with hj | hj
    · rw [hy j xs[j] (List.getElem?_eq_getElem hj)]
      simp [hj]
    · rw [List.getElem?_eq_none (by omega), List.getElem?_eq_none (by simpa using hj)]
  unfold OwnN Own
  rw [← e]
  exact h

end Go.Proofs.YtpikopdfkhagmaaGreatDoor
namespace Go.Proofs.YtpikopdfkhagmaaGreatDoor
open Go.RowKit
attribute [local go_sem] Keeps.refl Keeps.alloc Keeps.drew Keeps.drewN

/-- A lock as it lies: its owner, and where its row is. -/
structure Lv where
  o : Int
  a : Option Addr
  n : Nat
  cap : Nat
abbrev Lv.row (x : Lv) : Value := .slice x.a x.n x.cap
abbrev lvc (x : Lv) : Array Value := #[.int .i64 x.o, .slice x.a x.n x.cap]
theorem lvc_size (x : Lv) : (lvc x).size = 2 := rfl
theorem lvc_one (x : Lv) : ∀ u ∈ (lvc x).toList, u.oneCell' = true := by
  intro u hu
  simp at hu
  rcases hu with rfl | rfl <;> rfl
/-- A slice whose address says where: none, or in a block. -/
def Plain (w : World) (a : Option Addr) (n cap : Nat) : Prop := (a = none ∧ n = 0 ∧ cap = 0) ∨ ∃ b off, a = some ⟨b, off, none⟩ ∧ b < w.heap.size ∧ n ≤ cap
theorem Plain.keeps {w w' : World} {a : Option Addr} {n cap : Nat} (h : Plain w a n cap) (k : Keeps w w') : Plain w' a n cap := by
  rcases h with h | ⟨b, off, h1, h2, h3⟩
  · exact .inl h
  · exact .inr ⟨b, off, h1, Nat.lt_of_lt_of_le h2 k.size, h3⟩
/-- The lock l is what lies there (with p: its row is plain). -/
structure Fits (p : Bool) (w : World) (x : Lv) (l : Lk) : Prop where
  o : x.o = l.owner
  n : x.n = l.waits.length
  le : l.waits.length ≤ maxLen
  ns : Ns w x.a l.waits
  pl : p = true → Plain w x.a x.n x.cap
/-- The locks ls lie there. -/
def Lks (p : Bool) (w : World) (a : Option Addr) (ls : List Lk) : Prop := ∃ vs : List Lv, vs.length = ls.length ∧ Lies 2 lvc w a vs ∧ ∀ (i : Nat) (x : Lv) (l : Lk), vs[i]? = some x → ls[i]? = some l → Fits p w x l
theorem Lks.keeps {p : Bool} {w w' : World} {a : Option Addr} {ls : List Lk} (h : Lks p w a ls) (k : Keeps w w') : Lks p w' a ls := by
  obtain ⟨vs, h1, h2, h3⟩ := h
  exact ⟨vs, h1, h2.keeps k, fun i x l hx hl => ⟨(h3 i x l hx hl).o, (h3 i x l hx hl).n, (h3 i x l hx hl).le, (h3 i x l hx hl).ns.keeps k, fun e => ((h3 i x l hx hl).pl e).keeps k⟩⟩
theorem Lks.atp {p : Bool} {w : World} {a : Option Addr} {ls : List Lk} (h : Lks p w a ls) {i : Nat} {l : Lk} (hl : ls[i]? = some l) :
    ∃ b off a' cap, a = some ⟨b, off, none⟩ ∧ (∀ w', Keeps w w' → w'.cell? ⟨b, off + i * 2, none⟩ = some (.int .i64 l.owner)) ∧ (∀ w', Keeps w w' → w'.cell? ⟨b, off + i * 2 + 1, none⟩ = some (.slice a' l.waits.length cap)) ∧ l.waits.length ≤ maxLen ∧ Ns w a' l.waits ∧ (p = true → Plain w a' l.waits.length cap) := by
  obtain ⟨vs, h1, h2, h3⟩ := h
  obtain ⟨x, hx⟩ := some_in (xs := vs) (k := i) (by rw [h1]; exact lt_of_some hl)
  obtain ⟨b, off, rfl, r0, r1⟩ := h2.at hx (by omega)
  have F := h3 i x l hx hl
  refine ⟨b, off, x.a, x.cap, rfl, fun w' k => ?_, fun w' k => ?_, F.le, F.ns, fun e => by have := F.pl e; rw [F.n] at this; exact this⟩
  · rw [r0 w' k, ← F.o]; rfl
  · rw [r1 w' k 1 (by omega), ← F.n]; rfl
theorem Lks.at {p : Bool} {w : World} {a : Option Addr} {ls : List Lk} (h : Lks p w a ls) {i : Nat} {l : Lk} (hl : ls[i]? = some l) :
    ∃ b off a' cap, a = some ⟨b, off, none⟩ ∧ (∀ w', Keeps w w' → w'.cell? ⟨b, off + i * 2, none⟩ = some (.int .i64 l.owner)) ∧ (∀ w', Keeps w w' → w'.cell? ⟨b, off + i * 2 + 1, none⟩ = some (.slice a' l.waits.length cap)) ∧ l.waits.length ≤ maxLen ∧ Ns w a' l.waits := by
  obtain ⟨b, off, a', cap, e, r0, r1, h1, h2, -⟩ := h.atp hl
  exact ⟨b, off, a', cap, e, r0, r1, h1, h2⟩
theorem Lks.nil (p : Bool) (w : World) (a : Option Addr) : Lks p w a [] := ⟨[], rfl, .inl rfl, fun i x l h => by simp at h⟩

theorem Own.same {α : Type} {e : TypeId} {sz : Nat} {c : α → Array Value} {w w' : World} {base : Nat} {v : Value} {xs : List α} (h : Own e sz c w base v xs) (k : ∀ b, v.ownBlock = Option.some b → w'.heap[b]? = w.heap[b]?) : Own e sz c w' base v xs := by
  obtain ⟨h1, h2⟩ := h
  refine ⟨h1, ?_⟩
  rcases h2 with h2 | ⟨b, cap, cur, rfl, hb, hh, r⟩
  · exact .inl h2
  · refine .inr ⟨b, cap, cur, rfl, hb, ?_, r⟩
    rw [k b rfl]; exact hh
theorem Own.ltb {α : Type} {e : TypeId} {sz : Nat} {c : α → Array Value} {w : World} {base : Nat} {v : Value} {xs : List α} (h : Own e sz c w base v xs) : ∀ b, v.ownBlock = Option.some b → base ≤ b ∧ b < w.heap.size := World.ownsRow.lt h

/-- The locks ls are one's own: they lie from lo up to hi, each row in a block of its own. -/
structure Mine (w : World) (lo hi : Nat) (v : Value) (vs : List Lv) (ls : List Lk) : Prop where
  len : vs.length = ls.length
  own : Own 92 2 lvc w lo v vs
  out : ∀ b, v.ownBlock = some b → b < hi
  rows : ∀ (i : Nat) (x : Lv) (l : Lk), vs[i]? = some x → ls[i]? = some l → x.o = l.owner ∧ OwnN w lo x.row l.waits
  inn : ∀ (i : Nat) (x : Lv) (b : Nat), vs[i]? = some x → x.row.ownBlock = some b → b < hi ∧ v.ownBlock ≠ some b
  apart : ∀ (i j : Nat) (x y : Lv) (b : Nat), vs[i]? = some x → vs[j]? = some y → x.row.ownBlock = some b → y.row.ownBlock = some b → i = j
theorem Mine.same {w w' : World} {lo hi : Nat} {v : Value} {vs : List Lv} {ls : List Lk} (h : Mine w lo hi v vs ls) (k : ∀ b, lo ≤ b → b < hi → b < w.heap.size → w'.heap[b]? = w.heap[b]?) : Mine w' lo hi v vs ls := by
  refine ⟨h.len, h.own.same fun b hb => k b (h.own.ltb b hb).1 (h.out b hb) (h.own.ltb b hb).2, h.out, fun i x l hx hl => ?_, h.inn, h.apart⟩
  obtain ⟨h1, h2⟩ := h.rows i x l hx hl
  exact ⟨h1, h2.same fun b hb => k b (h2.ltb b hb).1 (h.inn i x b hx hb).1 (h2.ltb b hb).2⟩
theorem Mine.keeps {w w' : World} {lo hi : Nat} {v : Value} {vs : List Lv} {ls : List Lk} (h : Mine w lo hi v vs ls) (k : Keeps w w') : Mine w' lo hi v vs ls := h.same fun b _ _ hb => Below.block k b hb
theorem Mine.widen {w : World} {lo lo' hi hi' : Nat} {v : Value} {vs : List Lv} {ls : List Lk} (h : Mine w lo hi v vs ls) (h1 : lo' ≤ lo) (h2 : hi ≤ hi') : Mine w lo' hi' v vs ls :=
  ⟨h.len, h.own.base h1, fun b hb => Nat.lt_of_lt_of_le (h.out b hb) h2, fun i x l hx hl => ⟨(h.rows i x l hx hl).1, (h.rows i x l hx hl).2.base h1⟩, fun i x b hx hb => ⟨Nat.lt_of_lt_of_le (h.inn i x b hx hb).1 h2, (h.inn i x b hx hb).2⟩, h.apart⟩
theorem Mine.lks {w : World} {lo hi : Nat} {v : Value} {vs : List Lv} {ls : List Lk} (h : Mine w lo hi v vs ls) : ∃ a cap, v = .slice a ls.length cap ∧ Lks true w a ls ∧ ls.length ≤ maxLen := by
  obtain ⟨a, cap, rfl, l, h1, h2⟩ := h.own.slice lvc_size
  have hle := h.len
  refine ⟨a, cap, by rw [h.len], ⟨vs, h.len, l, fun i x l hx hl => ?_⟩, by omega⟩
  obtain ⟨r1, r2⟩ := h.rows i x l hx hl
  have r2' := r2
  obtain ⟨a', cap', e, ns, l1, l2⟩ := r2.ns
  simp only [Value.slice.injEq] at e
  obtain ⟨rfl, e2, rfl⟩ := e
  refine ⟨r1, e2, by omega, ns, fun _ => ?_⟩
  obtain ⟨_, ⟨e3, hn⟩ | ⟨b', cp, cur, e3, _⟩⟩ := r2
  · simp only [Value.slice.injEq] at e3
    exact .inl e3
  · have h3 := (Own.ltb r2' b' (by rw [e3]; rfl)).2
    simp only [Value.slice.injEq] at e3
    exact .inr ⟨b', 0, e3.1, h3, by omega⟩
theorem Mine.args {w : World} {lo hi : Nat} {v : Value} {vs : List Lv} {ls : List Lk} (h : Mine w lo hi v vs ls) : ∃ a cap, v = .slice a ls.length cap ∧ Lks true w a ls ∧ Plain w a ls.length cap ∧ ls.length ≤ maxLen := by
  obtain ⟨a, cap, e, l, hm⟩ := h.lks
  refine ⟨a, cap, e, l, ?_, hm⟩
  have O := h.own
  obtain ⟨_, ⟨e3, hn⟩ | ⟨b', cp, cur, e3, _, _, hc, _⟩⟩ := O
  · rw [e] at e3
    simp only [Value.slice.injEq] at e3
    exact .inl e3
  · have h3 := (Own.ltb h.own b' (by rw [e3]; rfl)).2
    rw [e] at e3
    simp only [Value.slice.injEq] at e3
    exact .inr ⟨b', 0, e3.1, h3, by have := h.len; omega⟩
/-- Only what lies from lo up to hi has turned. -/
structure Within (lo hi : Nat) (w w' : World) : Prop where
  os : w'.os = w.os
  tape : w'.tape = w.tape
  output : w'.output = w.output
  size : w.heap.size ≤ w'.heap.size
  block : ∀ b, b < w.heap.size → (b < lo ∨ hi ≤ b) → w'.heap[b]? = w.heap[b]?
theorem Within.refl (lo hi : Nat) (w : World) : Within lo hi w w := ⟨rfl, rfl, rfl, Nat.le_refl _, fun _ _ _ => rfl⟩
theorem Within.trans {lo hi : Nat} {a b c : World} (h : Within lo hi a b) (k : Within lo hi b c) : Within lo hi a c :=
  ⟨k.os.trans h.os, k.tape.trans h.tape, k.output.trans h.output, Nat.le_trans h.size k.size, fun i hi' ho => (k.block i (Nat.lt_of_lt_of_le hi' h.size) ho).trans (h.block i hi' ho)⟩
theorem Within.keeps {lo hi : Nat} {w0 w w' : World} (h : Within lo hi w w') (k : Keeps w0 w) (hl : w0.heap.size ≤ lo) : Keeps w0 w' :=
  Below.trans k ⟨h.os, h.tape, h.output, h.size, fun i hi' => h.block i (Nat.lt_of_lt_of_le hi' k.size) (.inl (Nat.lt_of_lt_of_le hi' hl))⟩
theorem Within.grown {lo hi : Nat} {w w' : World} {row : Option Nat} (h : w.grownBy w' row) (hr : ∀ b, row = some b → lo ≤ b ∧ b < hi) : Within lo hi w w' :=
  ⟨h.os, h.tape, h.output, h.size, fun i hi' ho => h.block i hi' fun e => by have := hr i e.symm; omega⟩
theorem Within.mine {lo hi lo' hi' : Nat} {w w' : World} {v : Value} {vs : List Lv} {ls : List Lk} (h : Within lo' hi' w w') (m : Mine w lo hi v vs ls) (ho : hi ≤ lo' ∨ hi' ≤ lo) : Mine w' lo hi v vs ls :=
  m.same fun b h1 h2 h3 => h.block b h3 (by omega)

theorem flatC_set {α : Type} {c : α → Array Value} {sz : Nat} (hc : ∀ x, (c x).size = sz) : ∀ (xs : List α) (i : Nat) (x y : α) (j : Nat) (u : Value), xs[i]? = some x → j < sz → (c y).toList = (c x).toList.set j u → flatC c (xs.set i y) = (flatC c xs).set (i * sz + j) u
  | [], i, x, y, j, u, h, _, _ => by simp at h
  | z :: r, 0, x, y, j, u, h, hj, hy => by
    simp at h
    subst h
    show (c y).toList ++ flatC c r = ((c z).toList ++ flatC c r).set (0 * sz + j) u
    rw [Nat.zero_mul, Nat.zero_add, List.set_append_left _ _ (by simp [hc, hj]), hy]
  | z :: r, i + 1, x, y, j, u, h, hj, hy => by
    have ih := flatC_set hc r i x y j u (by simpa using h) hj hy
    show (c z).toList ++ flatC c (r.set i y) = ((c z).toList ++ flatC c r).set ((i + 1) * sz + j) u
    rw [ih, List.set_append_right _ _ (by simp only [Array.length_toList, hc, Nat.add_mul, Nat.one_mul]; omega)]
    congr 2
    simp only [Array.length_toList, hc, Nat.add_mul, Nat.one_mul]
    omega
/-- An element's cell is written. -/
theorem Own.setAt {α : Type} {e : TypeId} {sz : Nat} {c : α → Array Value} {w : World} {base b n cap : Nat} {xs : List α} (h : Own e sz c w base (.slice (Option.some ⟨b, 0, none⟩) n cap) xs) (hc : ∀ x, (c x).size = sz) {i j : Nat} {x y : α} {u : Value} (hx : xs[i]? = Option.some x) (hj : j < sz) (hy : (c y).toList = (c x).toList.set j u) :
    Own e sz c (w.setCell ⟨b, i * sz + j, none⟩ u) base (.slice (Option.some ⟨b, 0, none⟩) n cap) (xs.set i y) := by
  have hn : n = xs.length := by
    obtain ⟨_, ⟨e, _⟩ | ⟨b', cp, cur, e, _⟩⟩ := h
    · simp at e
    · simp only [Value.slice.injEq] at e; exact e.2.1
  subst hn
  have := (World.ownsRow.stored h (i * sz + j) u).1
  unfold Own
  rw [flatC_set hc xs i x y j u hx hj hy, List.length_set]
  exact this
/-- A row that is not empty is a slice of its own block. -/
theorem Own.blk {α : Type} {e : TypeId} {sz : Nat} {c : α → Array Value} {w : World} {base : Nat} {v : Value} {xs : List α} (h : Own e sz c w base v xs) (hx : 0 < xs.length) : ∃ b cap, v = .slice (Option.some ⟨b, 0, none⟩) xs.length cap := by
  obtain ⟨_, ⟨e, hn⟩ | ⟨b', cp, cur, e, _⟩⟩ := h
  · omega
  · exact ⟨b', cp, e⟩
theorem Own.cellAt {α : Type} {e : TypeId} {sz : Nat} {c : α → Array Value} {w : World} {base b cap : Nat} {xs : List α} (h : Own e sz c w base (.slice (Option.some ⟨b, 0, none⟩) xs.length cap) xs) (hc : ∀ x, (c x).size = sz) {i k : Nat} {x : α} (hx : xs[i]? = Option.some x) (hk : k < sz) : w.cell? ⟨b, i * sz + k, none⟩ = (c x)[k]? := by
  have hi := lt_of_some hx
  have : i * sz + k < xs.length * sz := by
    have h1 : (i + 1) * sz ≤ xs.length * sz := Nat.mul_le_mul_right sz hi
    rw [Nat.add_mul, Nat.one_mul] at h1
    omega
  rw [World.ownsRow.cellAt h _ this, flatC_at hc xs i x hx k hk]
theorem Own.frozenAt {α : Type} {e : TypeId} {sz : Nat} {c : α → Array Value} {w : World} {base b cap : Nat} {xs : List α} (h : Own e sz c w base (.slice (Option.some ⟨b, 0, none⟩) xs.length cap) xs) (k : Nat) : w.frozen? ⟨b, k, none⟩ = false := World.ownsRow.frozenAt h k
theorem heap_setCell {w : World} {b o : Nat} {u : Value} {k : Nat} (h : k ≠ b) : (w.setCell ⟨b, o, none⟩ u).heap[k]? = w.heap[k]? := Below.heap_setCell _ _ _ _ h

theorem set_at {α : Type} {xs : List α} {k i : Nat} {x y : α} (h : (xs.set k y)[i]? = some x) : (i = k ∧ x = y) ∨ (i ≠ k ∧ xs[i]? = some x) := by
  by_cases e : k = i
  · subst e
    have hl : k < xs.length := by have := lt_of_some h; simpa using this
    rw [List.getElem?_set_self hl] at h
    cases h; exact .inl ⟨rfl, rfl⟩
  · rw [List.getElem?_set_ne e] at h
    exact .inr ⟨Ne.symm e, h⟩
/-- A lock's owner is written. -/
theorem Mine.setOwner {w : World} {lo hi b cap : Nat} {vs : List Lv} {ls : List Lk} (h : Mine w lo hi (.slice (some ⟨b, 0, none⟩) vs.length cap) vs ls) {k : Nat} {x : Lv} {l : Lk} (hx : vs[k]? = some x) (hl : ls[k]? = some l) (c : Int) :
    Mine (w.setCell ⟨b, k * 2, none⟩ (.int .i64 c)) lo hi (.slice (some ⟨b, 0, none⟩) (vs.set k { x with o := c }).length cap) (vs.set k { x with o := c }) (ls.set k { l with owner := c }) := by
  refine ⟨by simp [h.len], ?_, h.out, ?_, ?_, ?_⟩
  · have := h.own.setAt lvc_size (i := k) (j := 0) (x := x) (y := { x with o := c }) (u := .int .i64 c) hx (by omega) rfl
    simpa using this
  · intro i y m hy hm
    have key : ∀ u : Lv, (∀ b', u.row.ownBlock = some b' → b' ≠ b) → ∀ ws, OwnN w lo u.row ws → OwnN (w.setCell ⟨b, k * 2, none⟩ (.int .i64 c)) lo u.row ws := fun u hu ws ho => ho.same fun b' hb' => heap_setCell (hu b' hb')
    have hne : ∀ (j : Nat) (u : Lv), vs[j]? = some u → ∀ b', u.row.ownBlock = some b' → b' ≠ b := fun j u hu b' hb' e => (h.inn j u b' hu hb').2 (by rw [e]; rfl)
    rcases set_at hy with ⟨rfl, rfl⟩ | ⟨hik, hy⟩ <;> rcases set_at hm with ⟨h1, rfl⟩ | ⟨h1, hm⟩
    · exact ⟨rfl, key x (hne i x hx) _ (h.rows i x l hx hl).2⟩
    · exact absurd rfl h1
    · exact absurd h1 hik
    · exact ⟨(h.rows i y m hy hm).1, key y (hne i y hy) _ (h.rows i y m hy hm).2⟩
  · intro i y b' hy hb'
    rcases set_at hy with ⟨rfl, rfl⟩ | ⟨_, hy⟩
    · exact h.inn i x b' hx hb'
    · exact h.inn i y b' hy hb'
  · intro i j y z b' hy hz e1 e2
    rcases set_at hy with ⟨rfl, rfl⟩ | ⟨_, hy2⟩ <;> rcases set_at hz with ⟨rfl, rfl⟩ | ⟨_, hz2⟩
    · rfl
    · exact h.apart i j x z b' hx hz2 e1 e2
    · exact h.apart i j y x b' hy2 hx e1 e2
    · exact h.apart i j y z b' hy2 hz2 e1 e2
/-- A lock's row has turned within itself. -/
theorem Mine.turned {w w' : World} {lo hi : Nat} {v : Value} {vs : List Lv} {ls : List Lk} (h : Mine w lo hi v vs ls) {k : Nat} {x : Lv} {l : Lk} (hx : vs[k]? = some x) (hl : ls[k]? = some l) {ws : List Int} (g : w.grownBy w' x.row.ownBlock) (ho : OwnN w' lo x.row ws) :
    Mine w' lo hi v vs (ls.set k { l with waits := ws }) := by
  refine ⟨by simp [h.len], h.own.same fun b hb => g.block b (h.own.ltb b hb).2 (fun e => (h.inn k x b hx e.symm).2 hb), h.out, ?_, h.inn, h.apart⟩
  intro i y m hy hm
  rcases set_at hm with ⟨rfl, rfl⟩ | ⟨h1, hm⟩
  · rw [hx] at hy
    cases hy
    exact ⟨(h.rows i x l hx hl).1, ho⟩
  · obtain ⟨r1, r2⟩ := h.rows i y m hy hm
    exact ⟨r1, r2.same fun b hb => g.block b (r2.ltb b hb).2 (fun e => h1 (h.apart i k y x b hy hx hb e.symm))⟩
end Go.Proofs.YtpikopdfkhagmaaGreatDoor
