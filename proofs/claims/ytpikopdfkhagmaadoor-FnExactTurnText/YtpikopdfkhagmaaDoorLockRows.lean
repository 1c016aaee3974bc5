/-
  Rows of locks: each has its own row of those that wait.
-/
import Derived.Test.YtpikopdfkhagmaaDoorInts
namespace Go.Proofs.YtpikopdfkhagmaaDoor
open Go.RowKit
attribute [local go_sem] Keeps.refl Keeps.alloc Keeps.drew Keeps.drewN

/-- A lock as it lies: its owner, and where its row is. -/
structure Lv where
  o : Int
  a : Option Addr
  n : Nat
  cap : Nat
abbrev Lv.row (x : Lv) : Value := .slice x.a x.n x.cap
abbrev lvc (x : Lv) : Array Value := #[.int .i64 x.o, .slice x.a x.n x.cap]
/-- A slice whose address says where: none, or in a block. -/
def Plain (w : World) (a : Option Addr) (n cap : Nat) : Prop := (a = none ∧ n = 0 ∧ cap = 0) ∨ ∃ b off, a = some ⟨b, off, none⟩ ∧ b < w.heap.size ∧ n ≤ cap
theorem Plain.keeps {w w' : World} {a : Option Addr} {n cap : Nat} (h : Plain w a n cap) (k : Keeps w w') : Plain w' a n cap := by
  rcases h with h | ⟨b, off, h1, h2, h3⟩
  · exact .inl h
  · exact .inr ⟨b, off, h1, Nat.lt_of_lt_of_le h2 k.size, h3⟩
/-- The lock l is what lies there (with p: its row is plain). -/
structure Fits (p : Bool) (w : World) (x : Lv) (l : Lk) : Prop where
  o : x.o = l.owner
  n : x.n = l.waits.length
  le : l.waits.length ≤ maxLen
  ns : Ns w x.a l.waits
  pl : p = true → Plain w x.a x.n x.cap
/-- The locks ls lie there. -/
def Lks (p : Bool) (w : World) (a : Option Addr) (ls : List Lk) : Prop := ∃ vs : List Lv, vs.length = ls.length ∧ Lies 2 lvc w a vs ∧ ∀ (i : Nat) (x : Lv) (l : Lk), vs[i]? = some x → ls[i]? = some l → Fits p w x l
theorem Lks.keeps {p : Bool} {w w' : World} {a : Option Addr} {ls : List Lk} (h : Lks p w a ls) (k : Keeps w w') : Lks p w' a ls := by
  obtain ⟨vs, h1, h2, h3⟩ := h
  exact ⟨vs, h1, h2.keeps k, fun i x l hx hl => ⟨(h3 i x l hx hl).o, (h3 i x l hx hl).n, (h3 i x l hx hl).le, (h3 i x l hx hl).ns.keeps k, fun e => ((h3 i x l hx hl).pl e).keeps k⟩⟩
theorem Lks.atp {p : Bool} {w : World} {a : Option Addr} {ls : List Lk} (h : Lks p w a ls) {i : Nat} {l : Lk} (hl : ls[i]? = some l) :
    ∃ b off a' cap, a = some ⟨b, off, none⟩ ∧ (∀ w', Keeps w w' → w'.cell? ⟨b, off + i * 2, none⟩ = some (.int .i64 l.owner)) ∧ (∀ w', Keeps w w' → w'.cell? ⟨b, off + i * 2 + 1, none⟩ = some (.slice a' l.waits.length cap)) ∧ l.waits.length ≤ maxLen ∧ Ns w a' l.waits ∧ (p = true → Plain w a' l.waits.length cap) := by
  obtain ⟨vs, h1, h2, h3⟩ := h
  obtain ⟨x, hx⟩ := some_in (xs := vs) (k := i) (by rw [h1]; exact lt_of_some hl)
  obtain ⟨b, off, rfl, r0, r1⟩ := h2.at hx (by omega)
  have F := h3 i x l hx hl
  refine ⟨b, off, x.a, x.cap, rfl, fun w' k => ?_, fun w' k => ?_, F.le, F.ns, fun e => by have := F.pl e; rw [F.n] at this; exact this⟩
  · rw [r0 w' k, ← F.o]; rfl
  · rw [r1 w' k 1 (by omega), ← F.n]; rfl
theorem Lks.at {p : Bool} {w : World} {a : Option Addr} {ls : List Lk} (h : Lks p w a ls) {i : Nat} {l : Lk} (hl : ls[i]? = some l) :
    ∃ b off a' cap, a = some ⟨b, off, none⟩ ∧ (∀ w', Keeps w w' → w'.cell? ⟨b, off + i * 2, none⟩ = some (.int .i64 l.owner)) ∧ (∀ w', Keeps w w' → w'.cell? ⟨b, off + i * 2 + 1, none⟩ = some (.slice a' l.waits.length cap)) ∧ l.waits.length ≤ maxLen ∧ Ns w a' l.waits := by
  obtain ⟨b, off, a', cap, e, r0, r1, h1, h2, -⟩ := h.atp hl
  exact ⟨b, off, a', cap, e, r0, r1, h1, h2⟩
theorem Lks.nil (p : Bool) (w : World) (a : Option Addr) : Lks p w a [] := ⟨[], rfl, .inl rfl, fun i x l h => by simp at h⟩

theorem Own.same {α : Type} {e : TypeId} {sz : Nat} {c : α → Array Value} {w w' : World} {base : Nat} {v : Value} {xs : List α} (h : Own e sz c w base v xs) (k : ∀ b, v.ownBlock = Option.some b → w'.heap[b]? = w.heap[b]?) : Own e sz c w' base v xs := by
  obtain ⟨h1, h2⟩ := h
  refine ⟨h1, ?_⟩
  rcases h2 with h2 | ⟨b, cap, cur, rfl, hb, hh, r⟩
  · exact .inl h2
  · refine .inr ⟨b, cap, cur, rfl, hb, ?_, r⟩
    rw [k b rfl]; exact hh
theorem Own.ltb {α : Type} {e : TypeId} {sz : Nat} {c : α → Array Value} {w : World} {base : Nat} {v : Value} {xs : List α} (h : Own e sz c w base v xs) : ∀ b, v.ownBlock = Option.some b → base ≤ b ∧ b < w.heap.size := World.ownsRow.lt h

/-- Only what lies from lo up to hi has turned. -/
structure Within (lo hi : Nat) (w w' : World) : Prop where
  os : w'.os = w.os
  tape : w'.tape = w.tape
  output : w'.output = w.output
  size : w.heap.size ≤ w'.heap.size
  block : ∀ b, b < w.heap.size → (b < lo ∨ hi ≤ b) → w'.heap[b]? = w.heap[b]?
theorem Within.refl (lo hi : Nat) (w : World) : Within lo hi w w := ⟨rfl, rfl, rfl, Nat.le_refl _, fun _ _ _ => rfl⟩
theorem Within.trans {lo hi : Nat} {a b c : World} (h : Within lo hi a b) (k : Within lo hi b c) : Within lo hi a c :=
  ⟨k.os.trans h.os, k.tape.trans h.tape, k.output.trans h.output, Nat.le_trans h.size k.size, fun i hi' ho => (k.block i (Nat.lt_of_lt_of_le hi' h.size) ho).trans (h.block i hi' ho)⟩
theorem Within.keeps {lo hi : Nat} {w0 w w' : World} (h : Within lo hi w w') (k : Keeps w0 w) (hl : w0.heap.size ≤ lo) : Keeps w0 w' :=
  Below.trans k ⟨h.os, h.tape, h.output, h.size, fun i hi' => h.block i (Nat.lt_of_lt_of_le hi' k.size) (.inl (Nat.lt_of_lt_of_le hi' hl))⟩
theorem Within.grown {lo hi : Nat} {w w' : World} {row : Option Nat} (h : w.grownBy w' row) (hr : ∀ b, row = some b → lo ≤ b ∧ b < hi) : Within lo hi w w' :=
  ⟨h.os, h.tape, h.output, h.size, fun i hi' ho => h.block i hi' fun e => by have := hr i e.symm; omega⟩
theorem flatC_set {α : Type} {c : α → Array Value} {sz : Nat} (hc : ∀ x, (c x).size = sz) : ∀ (xs : List α) (i : Nat) (x y : α) (j : Nat) (u : Value), xs[i]? = some x → j < sz → (c y).toList = (c x).toList.set j u → flatC c (xs.set i y) = (flatC c xs).set (i * sz + j) u
  | [], i, x, y, j, u, h, _, _ => by simp at h
  | z :: r, 0, x, y, j, u, h, hj, hy => by
    simp at h
    subst h
    show (c y).toList ++ flatC c r = ((c z).toList ++ flatC c r).set (0 * sz + j) u
    rw [Nat.zero_mul, Nat.zero_add, List.set_append_left _ _ (by simp [hc, hj]), hy]
  | z :: r, i + 1, x, y, j, u, h, hj, hy => by
    have ih := flatC_set hc r i x y j u (by simpa using h) hj hy
    show (c z).toList ++ flatC c (r.set i y) = ((c z).toList ++ flatC c r).set ((i + 1) * sz + j) u
    rw [ih, List.set_append_right _ _ (by simp only [Array.length_toList, hc, Nat.add_mul, Nat.one_mul]; omega)]
    congr 2
    simp only [Array.length_toList, hc, Nat.add_mul, Nat.one_mul]
    omega
/-- An element's cell is written. -/
theorem Own.setAt {α : Type} {e : TypeId} {sz : Nat} {c : α → Array Value} {w : World} {base b n cap : Nat} {xs : List α} (h : Own e sz c w base (.slice (Option.some ⟨b, 0, none⟩) n cap) xs) (hc : ∀ x, (c x).size = sz) {i j : Nat} {x y : α} {u : Value} (hx : xs[i]? = Option.some x) (hj : j < sz) (hy : (c y).toList = (c x).toList.set j u) :
    Own e sz c (w.setCell ⟨b, i * sz + j, none⟩ u) base (.slice (Option.some ⟨b, 0, none⟩) n cap) (xs.set i y) := by
  have hn : n = xs.length := by
    obtain ⟨_, ⟨e, _⟩ | ⟨b', cp, cur, e, _⟩⟩ := h
    · simp at e
    · simp only [Value.slice.injEq] at e; exact e.2.1
  subst hn
  have := (World.ownsRow.stored h (i * sz + j) u).1
  unfold Own
  rw [flatC_set hc xs i x y j u hx hj hy, List.length_set]
  exact this
/-- A row that is not empty is a slice of its own block. -/
theorem Own.blk {α : Type} {e : TypeId} {sz : Nat} {c : α → Array Value} {w : World} {base : Nat} {v : Value} {xs : List α} (h : Own e sz c w base v xs) (hx : 0 < xs.length) : ∃ b cap, v = .slice (Option.some ⟨b, 0, none⟩) xs.length cap := by
  obtain ⟨_, ⟨e, hn⟩ | ⟨b', cp, cur, e, _⟩⟩ := h
  · omega
  · exact ⟨b', cp, e⟩
theorem Own.cellAt {α : Type} {e : TypeId} {sz : Nat} {c : α → Array Value} {w : World} {base b cap : Nat} {xs : List α} (h : Own e sz c w base (.slice (Option.some ⟨b, 0, none⟩) xs.length cap) xs) (hc : ∀ x, (c x).size = sz) {i k : Nat} {x : α} (hx : xs[i]? = Option.some x) (hk : k < sz) : w.cell? ⟨b, i * sz + k, none⟩ = (c x)[k]? := by
  have hi := lt_of_some hx
  have : i * sz + k < xs.length * sz := by
    have h1 : (i + 1) * sz ≤ xs.length * sz := Nat.mul_le_mul_right sz hi
    rw [Nat.add_mul, Nat.one_mul] at h1
    omega
  rw [World.ownsRow.cellAt h _ this, flatC_at hc xs i x hx k hk]
theorem Own.frozenAt {α : Type} {e : TypeId} {sz : Nat} {c : α → Array Value} {w : World} {base b cap : Nat} {xs : List α} (h : Own e sz c w base (.slice (Option.some ⟨b, 0, none⟩) xs.length cap) xs) (k : Nat) : w.frozen? ⟨b, k, none⟩ = false := World.ownsRow.frozenAt h k
theorem heap_setCell {w : World} {b o : Nat} {u : Value} {k : Nat} (h : k ≠ b) : (w.setCell ⟨b, o, none⟩ u).heap[k]? = w.heap[k]? := Below.heap_setCell _ _ _ _ h

end Go.Proofs.YtpikopdfkhagmaaDoor
