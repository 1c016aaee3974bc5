/-
  Rows of locks: each has its own row of those that wait.
  A struct is written over a block, cell by cell.
  Rows of locks: the laws' own helpers over them.
  Nothing old has turned, and a block holds its cells.
  What a heap's walk needs of every kind: loops of two rounds, appends in a drawn region, swaps of two elements of nine cells.
  Rows of locks: made anew, marked, and looked at again.
  Fixed priorities, as plain functions, and what holds of them.
  Fixed priorities: contracts of the model's functions.
-/
import Derived.Test.YtpikopdfkhagmaaGreatDoorLockPure
import Derived.Test.YtpikopdfkhagmaaGreatDoorCur
import Derived.Deep.RegionHeld3
import Derived.Test.4row
import Derived.Deep.RegionLaw
import Derived.BigRegion
import Derived.Test.YtpikopdfkhagmaaGreatDoorTaskSpec
namespace Go.Proofs.YtpikopdfkhagmaaGreatDoor
open Go.RowKit
attribute [local go_sem] Keeps.refl Keeps.alloc Keeps.drew Keeps.drewN

/-- A lock as it lies: its owner, and where its row is. -/
structure Lv where
  o : Int
  a : Option Addr
  n : Nat
  cap : Nat
abbrev Lv.row (x : Lv) : Value := .slice x.a x.n x.cap
abbrev lvc (x : Lv) : Array Value := #[.int .i64 x.o, .slice x.a x.n x.cap]
theorem lvc_size (x : Lv) : (lvc x).size = 2 := rfl
theorem lvc_one (x : Lv) : ∀ u ∈ (lvc x).toList, u.oneCell' = true := by
  intro u hu
  simp at hu
  rcases hu with rfl | rfl <;> rfl
/-- A slice whose address says where: none, or in a block. -/
def Plain (w : World) (a : Option Addr) (n cap : Nat) : Prop := (a = none ∧ n = 0 ∧ cap = 0) ∨ ∃ b off, a = some ⟨b, off, none⟩ ∧ b < w.heap.size ∧ n ≤ cap
theorem Plain.keeps {w w' : World} {a : Option Addr} {n cap : Nat} (h : Plain w a n cap) (k : Keeps w w') : Plain w' a n cap := by
  rcases h with h | ⟨b, off, h1, h2, h3⟩
  · exact .inl h
  · exact .inr ⟨b, off, h1, Nat.lt_of_lt_of_le h2 k.size, h3⟩
/-- The lock l is what lies there (with p: its row is plain). -/
structure Fits (p : Bool) (w : World) (x : Lv) (l : Lk) : Prop where
  o : x.o = l.owner
  n : x.n = l.waits.length
  le : l.waits.length ≤ maxLen
  ns : Ns w x.a l.waits
  pl : p = true → Plain w x.a x.n x.cap
/-- The locks ls lie there. -/
def Lks (p : Bool) (w : World) (a : Option Addr) (ls : List Lk) : Prop := ∃ vs : List Lv, vs.length = ls.length ∧ Lies 2 lvc w a vs ∧ ∀ (i : Nat) (x : Lv) (l : Lk), vs[i]? = some x → ls[i]? = some l → Fits p w x l
theorem Lks.keeps {p : Bool} {w w' : World} {a : Option Addr} {ls : List Lk} (h : Lks p w a ls) (k : Keeps w w') : Lks p w' a ls := by
  obtain ⟨vs, h1, h2, h3⟩ := h
  exact ⟨vs, h1, h2.keeps k, fun i x l hx hl => ⟨(h3 i x l hx hl).o, (h3 i x l hx hl).n, (h3 i x l hx hl).le, (h3 i x l hx hl).ns.keeps k, fun e => ((h3 i x l hx hl).pl e).keeps k⟩⟩
theorem Lks.atp {p : Bool} {w : World} {a : Option Addr} {ls : List Lk} (h : Lks p w a ls) {i : Nat} {l : Lk} (hl : ls[i]? = some l) :
    ∃ b off a' cap, a = some ⟨b, off, none⟩ ∧ (∀ w', Keeps w w' → w'.cell? ⟨b, off + i * 2, none⟩ = some (.int .i64 l.owner)) ∧ (∀ w', Keeps w w' → w'.cell? ⟨b, off + i * 2 + 1, none⟩ = some (.slice a' l.waits.length cap)) ∧ l.waits.length ≤ maxLen ∧ Ns w a' l.waits ∧ (p = true → Plain w a' l.waits.length cap) := by
  obtain ⟨vs, h1, h2, h3⟩ := h
  obtain ⟨x, hx⟩ := some_in (xs := vs) (k := i) (by rw [h1]; exact lt_of_some hl)
  obtain ⟨b, off, rfl, r0, r1⟩ := h2.at hx (by omega)
  have F := h3 i x l hx hl
  refine ⟨b, off, x.a, x.cap, rfl, fun w' k => ?_, fun w' k => ?_, F.le, F.ns, fun e => by have := F.pl e; rw [F.n] at this; exact this⟩
  · rw [r0 w' k, ← F.o]; rfl
  · rw [r1 w' k 1 (by omega), ← F.n]; rfl
theorem Lks.at {p : Bool} {w : World} {a : Option Addr} {ls : List Lk} (h : Lks p w a ls) {i : Nat} {l : Lk} (hl : ls[i]? = some l) :
    ∃ b off a' cap, a = some ⟨b, off, none⟩ ∧ (∀ w', Keeps w w' → w'.cell? ⟨b, off + i * 2, none⟩ = some (.int .i64 l.owner)) ∧ (∀ w', Keeps w w' → w'.cell? ⟨b, off + i * 2 + 1, none⟩ = some (.slice a' l.waits.length cap)) ∧ l.waits.length ≤ maxLen ∧ Ns w a' l.waits := by
  obtain ⟨b, off, a', cap, e, r0, r1, h1, h2, -⟩ := h.atp hl
  exact ⟨b, off, a', cap, e, r0, r1, h1, h2⟩
theorem Lks.nil (p : Bool) (w : World) (a : Option Addr) : Lks p w a [] := ⟨[], rfl, .inl rfl, fun i x l h => by simp at h⟩

theorem Own.same {α : Type} {e : TypeId} {sz : Nat} {c : α → Array Value} {w w' : World} {base : Nat} {v : Value} {xs : List α} (h : Own e sz c w base v xs) (k : ∀ b, v.ownBlock = Option.some b → w'.heap[b]? = w.heap[b]?) : Own e sz c w' base v xs := by
  obtain ⟨h1, h2⟩ := h
  refine ⟨h1, ?_⟩
  rcases h2 with h2 | ⟨b, cap, cur, rfl, hb, hh, r⟩
  · exact .inl h2
  · refine .inr ⟨b, cap, cur, rfl, hb, ?_, r⟩
    rw [k b rfl]; exact hh
theorem Own.ltb {α : Type} {e : TypeId} {sz : Nat} {c : α → Array Value} {w : World} {base : Nat} {v : Value} {xs : List α} (h : Own e sz c w base v xs) : ∀ b, v.ownBlock = Option.some b → base ≤ b ∧ b < w.heap.size := World.ownsRow.lt h

/-- The locks ls are one's own: they lie from lo up to hi, each row in a block of its own. -/
structure Mine (w : World) (lo hi : Nat) (v : Value) (vs : List Lv) (ls : List Lk) : Prop where
  len : vs.length = ls.length
  own : Own 92 2 lvc w lo v vs
  out : ∀ b, v.ownBlock = some b → b < hi
  rows : ∀ (i : Nat) (x : Lv) (l : Lk), vs[i]? = some x → ls[i]? = some l → x.o = l.owner ∧ OwnN w lo x.row l.waits
  inn : ∀ (i : Nat) (x : Lv) (b : Nat), vs[i]? = some x → x.row.ownBlock = some b → b < hi ∧ v.ownBlock ≠ some b
  apart : ∀ (i j : Nat) (x y : Lv) (b : Nat), vs[i]? = some x → vs[j]? = some y → x.row.ownBlock = some b → y.row.ownBlock = some b → i = j
theorem Mine.same {w w' : World} {lo hi : Nat} {v : Value} {vs : List Lv} {ls : List Lk} (h : Mine w lo hi v vs ls) (k : ∀ b, lo ≤ b → b < hi → b < w.heap.size → w'.heap[b]? = w.heap[b]?) : Mine w' lo hi v vs ls := by
  refine ⟨h.len, h.own.same fun b hb => k b (h.own.ltb b hb).1 (h.out b hb) (h.own.ltb b hb).2, h.out, fun i x l hx hl => ?_, h.inn, h.apart⟩
  obtain ⟨h1, h2⟩ := h.rows i x l hx hl
  exact ⟨h1, h2.same fun b hb => k b (h2.ltb b hb).1 (h.inn i x b hx hb).1 (h2.ltb b hb).2⟩
theorem Mine.keeps {w w' : World} {lo hi : Nat} {v : Value} {vs : List Lv} {ls : List Lk} (h : Mine w lo hi v vs ls) (k : Keeps w w') : Mine w' lo hi v vs ls := h.same fun b _ _ hb => Below.block k b hb
theorem Mine.widen {w : World} {lo lo' hi hi' : Nat} {v : Value} {vs : List Lv} {ls : List Lk} (h : Mine w lo hi v vs ls) (h1 : lo' ≤ lo) (h2 : hi ≤ hi') : Mine w lo' hi' v vs ls :=
  ⟨h.len, h.own.base h1, fun b hb => Nat.lt_of_lt_of_le (h.out b hb) h2, fun i x l hx hl => ⟨(h.rows i x l hx hl).1, (h.rows i x l hx hl).2.base h1⟩, fun i x b hx hb => ⟨Nat.lt_of_lt_of_le (h.inn i x b hx hb).1 h2, (h.inn i x b hx hb).2⟩, h.apart⟩
theorem Mine.lks {w : World} {lo hi : Nat} {v : Value} {vs : List Lv} {ls : List Lk} (h : Mine w lo hi v vs ls) : ∃ a cap, v = .slice a ls.length cap ∧ Lks true w a ls ∧ ls.length ≤ maxLen := by
  obtain ⟨a, cap, rfl, l, h1, h2⟩ := h.own.slice lvc_size
  have hle := h.len
  refine ⟨a, cap, by rw [h.len], ⟨vs, h.len, l, fun i x l hx hl => ?_⟩, by omega⟩
  obtain ⟨r1, r2⟩ := h.rows i x l hx hl
  have r2' := r2
  obtain ⟨a', cap', e, ns, l1, l2⟩ := r2.ns
  simp only [Value.slice.injEq] at e
  obtain ⟨rfl, e2, rfl⟩ := e
  refine ⟨r1, e2, by omega, ns, fun _ => ?_⟩
  obtain ⟨_, ⟨e3, hn⟩ | ⟨b', cp, cur, e3, _⟩⟩ := r2
  · simp only [Value.slice.injEq] at e3
    exact .inl e3
  · have h3 := (Own.ltb r2' b' (by rw [e3]; rfl)).2
    simp only [Value.slice.injEq] at e3
    exact .inr ⟨b', 0, e3.1, h3, by omega⟩
theorem Mine.args {w : World} {lo hi : Nat} {v : Value} {vs : List Lv} {ls : List Lk} (h : Mine w lo hi v vs ls) : ∃ a cap, v = .slice a ls.length cap ∧ Lks true w a ls ∧ Plain w a ls.length cap ∧ ls.length ≤ maxLen := by
  obtain ⟨a, cap, e, l, hm⟩ := h.lks
  refine ⟨a, cap, e, l, ?_, hm⟩
  have O := h.own
  obtain ⟨_, ⟨e3, hn⟩ | ⟨b', cp, cur, e3, _, _, hc, _⟩⟩ := O
  · rw [e] at e3
    simp only [Value.slice.injEq] at e3
    exact .inl e3
  · have h3 := (Own.ltb h.own b' (by rw [e3]; rfl)).2
    rw [e] at e3
    simp only [Value.slice.injEq] at e3
    exact .inr ⟨b', 0, e3.1, h3, by have := h.len; omega⟩
/-- Only what lies from lo up to hi has turned. -/
structure Within (lo hi : Nat) (w w' : World) : Prop where
  os : w'.os = w.os
  tape : w'.tape = w.tape
  output : w'.output = w.output
  size : w.heap.size ≤ w'.heap.size
  block : ∀ b, b < w.heap.size → (b < lo ∨ hi ≤ b) → w'.heap[b]? = w.heap[b]?
theorem Within.refl (lo hi : Nat) (w : World) : Within lo hi w w := ⟨rfl, rfl, rfl, Nat.le_refl _, fun _ _ _ => rfl⟩
theorem Within.trans {lo hi : Nat} {a b c : World} (h : Within lo hi a b) (k : Within lo hi b c) : Within lo hi a c :=
  ⟨k.os.trans h.os, k.tape.trans h.tape, k.output.trans h.output, Nat.le_trans h.size k.size, fun i hi' ho => (k.block i (Nat.lt_of_lt_of_le hi' h.size) ho).trans (h.block i hi' ho)⟩
theorem Within.keeps {lo hi : Nat} {w0 w w' : World} (h : Within lo hi w w') (k : Keeps w0 w) (hl : w0.heap.size ≤ lo) : Keeps w0 w' :=
  Below.trans k ⟨h.os, h.tape, h.output, h.size, fun i hi' => h.block i (Nat.lt_of_lt_of_le hi' k.size) (.inl (Nat.lt_of_lt_of_le hi' hl))⟩
theorem Within.grown {lo hi : Nat} {w w' : World} {row : Option Nat} (h : w.grownBy w' row) (hr : ∀ b, row = some b → lo ≤ b ∧ b < hi) : Within lo hi w w' :=
  ⟨h.os, h.tape, h.output, h.size, fun i hi' ho => h.block i hi' fun e => by have := hr i e.symm; omega⟩
theorem Within.mine {lo hi lo' hi' : Nat} {w w' : World} {v : Value} {vs : List Lv} {ls : List Lk} (h : Within lo' hi' w w') (m : Mine w lo hi v vs ls) (ho : hi ≤ lo' ∨ hi' ≤ lo) : Mine w' lo hi v vs ls :=
  m.same fun b h1 h2 h3 => h.block b h3 (by omega)

theorem flatC_set {α : Type} {c : α → Array Value} {sz : Nat} (hc : ∀ x, (c x).size = sz) : ∀ (xs : List α) (i : Nat) (x y : α) (j : Nat) (u : Value), xs[i]? = some x → j < sz → (c y).toList = (c x).toList.set j u → flatC c (xs.set i y) = (flatC c xs).set (i * sz + j) u
  | [], i, x, y, j, u, h, _, _ => by simp at h
  | z :: r, 0, x, y, j, u, h, hj, hy => by
    simp at h
    subst h
    show (c y).toList ++ flatC c r = ((c z).toList ++ flatC c r).set (0 * sz + j) u
    rw [Nat.zero_mul, Nat.zero_add, List.set_append_left _ _ (by simp [hc, hj]), hy]
  | z :: r, i + 1, x, y, j, u, h, hj, hy => by
    have ih := flatC_set hc r i x y j u (by simpa using h) hj hy
    show (c z).toList ++ flatC c (r.set i y) = ((c z).toList ++ flatC c r).set ((i + 1) * sz + j) u
    rw [ih, List.set_append_right _ _ (by simp only [Array.length_toList, hc, Nat.add_mul, Nat.one_mul]; omega)]
    congr 2
    simp only [Array.length_toList, hc, Nat.add_mul, Nat.one_mul]
    omega
/-- An element's cell is written. -/
theorem Own.setAt {α : Type} {e : TypeId} {sz : Nat} {c : α → Array Value} {w : World} {base b n cap : Nat} {xs : List α} (h : Own e sz c w base (.slice (Option.some ⟨b, 0, none⟩) n cap) xs) (hc : ∀ x, (c x).size = sz) {i j : Nat} {x y : α} {u : Value} (hx : xs[i]? = Option.some x) (hj : j < sz) (hy : (c y).toList = (c x).toList.set j u) :
    Own e sz c (w.setCell ⟨b, i * sz + j, none⟩ u) base (.slice (Option.some ⟨b, 0, none⟩) n cap) (xs.set i y) := by
  have hn : n = xs.length := by
    obtain ⟨_, ⟨e, _⟩ | ⟨b', cp, cur, e, _⟩⟩ := h
    · simp at e
    · simp only [Value.slice.injEq] at e; exact e.2.1
  subst hn
  have := (World.ownsRow.stored h (i * sz + j) u).1
  unfold Own
  rw [flatC_set hc xs i x y j u hx hj hy, List.length_set]
  exact this
/-- A row that is not empty is a slice of its own block. -/
theorem Own.blk {α : Type} {e : TypeId} {sz : Nat} {c : α → Array Value} {w : World} {base : Nat} {v : Value} {xs : List α} (h : Own e sz c w base v xs) (hx : 0 < xs.length) : ∃ b cap, v = .slice (Option.some ⟨b, 0, none⟩) xs.length cap := by
  obtain ⟨_, ⟨e, hn⟩ | ⟨b', cp, cur, e, _⟩⟩ := h
  · omega
  · exact ⟨b', cp, e⟩
theorem Own.cellAt {α : Type} {e : TypeId} {sz : Nat} {c : α → Array Value} {w : World} {base b cap : Nat} {xs : List α} (h : Own e sz c w base (.slice (Option.some ⟨b, 0, none⟩) xs.length cap) xs) (hc : ∀ x, (c x).size = sz) {i k : Nat} {x : α} (hx : xs[i]? = Option.some x) (hk : k < sz) : w.cell? ⟨b, i * sz + k, none⟩ = (c x)[k]? := by
  have hi := lt_of_some hx
  have : i * sz + k < xs.length * sz := by
    have h1 : (i + 1) * sz ≤ xs.length * sz := Nat.mul_le_mul_right sz hi
    rw [Nat.add_mul, Nat.one_mul] at h1
    omega
  rw [World.ownsRow.cellAt h _ this, flatC_at hc xs i x hx k hk]
theorem Own.frozenAt {α : Type} {e : TypeId} {sz : Nat} {c : α → Array Value} {w : World} {base b cap : Nat} {xs : List α} (h : Own e sz c w base (.slice (Option.some ⟨b, 0, none⟩) xs.length cap) xs) (k : Nat) : w.frozen? ⟨b, k, none⟩ = false := World.ownsRow.frozenAt h k
theorem heap_setCell {w : World} {b o : Nat} {u : Value} {k : Nat} (h : k ≠ b) : (w.setCell ⟨b, o, none⟩ u).heap[k]? = w.heap[k]? := Below.heap_setCell _ _ _ _ h

theorem set_at {α : Type} {xs : List α} {k i : Nat} {x y : α} (h : (xs.set k y)[i]? = some x) : (i = k ∧ x = y) ∨ (i ≠ k ∧ xs[i]? = some x) := by
  by_cases e : k = i
  · subst e
    have hl : k < xs.length := by have := lt_of_some h; simpa using this
    rw [List.getElem?_set_self hl] at h
    cases h; exact .inl ⟨rfl, rfl⟩
  · rw [List.getElem?_set_ne e] at h
    exact .inr ⟨Ne.symm e, h⟩
/-- A lock's owner is written. -/
theorem Mine.setOwner {w : World} {lo hi b cap : Nat} {vs : List Lv} {ls : List Lk} (h : Mine w lo hi (.slice (some ⟨b, 0, none⟩) vs.length cap) vs ls) {k : Nat} {x : Lv} {l : Lk} (hx : vs[k]? = some x) (hl : ls[k]? = some l) (c : Int) :
    Mine (w.setCell ⟨b, k * 2, none⟩ (.int .i64 c)) lo hi (.slice (some ⟨b, 0, none⟩) (vs.set k { x with o := c }).length cap) (vs.set k { x with o := c }) (ls.set k { l with owner := c }) := by
  refine ⟨by simp [h.len], ?_, h.out, ?_, ?_, ?_⟩
  · have := h.own.setAt lvc_size (i := k) (j := 0) (x := x) (y := { x with o := c }) (u := .int .i64 c) hx (by omega) rfl
    simpa using this
  · intro i y m hy hm
    have key : ∀ u : Lv, (∀ b', u.row.ownBlock = some b' → b' ≠ b) → ∀ ws, OwnN w lo u.row ws → OwnN (w.setCell ⟨b, k * 2, none⟩ (.int .i64 c)) lo u.row ws := fun u hu ws ho => ho.same fun b' hb' => heap_setCell (hu b' hb')
    have hne : ∀ (j : Nat) (u : Lv), vs[j]? = some u → ∀ b', u.row.ownBlock = some b' → b' ≠ b := fun j u hu b' hb' e => (h.inn j u b' hu hb').2 (by rw [e]; rfl)
    rcases set_at hy with ⟨rfl, rfl⟩ | ⟨hik, hy⟩ <;> rcases set_at hm with ⟨h1, rfl⟩ | ⟨h1, hm⟩
    · exact ⟨rfl, key x (hne i x hx) _ (h.rows i x l hx hl).2⟩
    · exact absurd rfl h1
    · exact absurd h1 hik
    · exact ⟨(h.rows i y m hy hm).1, key y (hne i y hy) _ (h.rows i y m hy hm).2⟩
  · intro i y b' hy hb'
    rcases set_at hy with ⟨rfl, rfl⟩ | ⟨_, hy⟩
    · exact h.inn i x b' hx hb'
    · exact h.inn i y b' hy hb'
  · intro i j y z b' hy hz e1 e2
    rcases set_at hy with ⟨rfl, rfl⟩ | ⟨_, hy2⟩ <;> rcases set_at hz with ⟨rfl, rfl⟩ | ⟨_, hz2⟩
    · rfl
    · exact h.apart i j x z b' hx hz2 e1 e2
    · exact h.apart i j y x b' hy2 hx e1 e2
    · exact h.apart i j y z b' hy2 hz2 e1 e2
/-- A lock's row has turned within itself. -/
theorem Mine.turned {w w' : World} {lo hi : Nat} {v : Value} {vs : List Lv} {ls : List Lk} (h : Mine w lo hi v vs ls) {k : Nat} {x : Lv} {l : Lk} (hx : vs[k]? = some x) (hl : ls[k]? = some l) {ws : List Int} (g : w.grownBy w' x.row.ownBlock) (ho : OwnN w' lo x.row ws) :
    Mine w' lo hi v vs (ls.set k { l with waits := ws }) := by
  refine ⟨by simp [h.len], h.own.same fun b hb => g.block b (h.own.ltb b hb).2 (fun e => (h.inn k x b hx e.symm).2 hb), h.out, ?_, h.inn, h.apart⟩
  intro i y m hy hm
  rcases set_at hm with ⟨rfl, rfl⟩ | ⟨h1, hm⟩
  · rw [hx] at hy
    cases hy
    exact ⟨(h.rows i x l hx hl).1, ho⟩
  · obtain ⟨r1, r2⟩ := h.rows i y m hy hm
    exact ⟨r1, r2.same fun b hb => g.block b (r2.ltb b hb).2 (fun e => h1 (h.apart i k y x b hy hx hb e.symm))⟩
end Go.Proofs.YtpikopdfkhagmaaGreatDoor
namespace Go.Proofs.YtpikopdfkhagmaaGreatDoor
open Go.RowKit

/-- From the place k of the block b on stand these values. -/
def putC (w : World) (b k : Nat) : List Value → World
  | [] => w
  | v :: r => putC (w.setCell ⟨b, k, none⟩ v) b (k + 1) r
/-- The cells behind it. -/
def setL (C : Array Value) (k : Nat) : List Value → Array Value
  | [] => C
  | v :: r => setL (C.setIfInBounds k v) (k + 1) r
theorem setL_at : ∀ (L : List Value) (C : Array Value) (k i : Nat), k + L.length ≤ C.size → (setL C k L)[i]? = if k ≤ i ∧ i < k + L.length then L[i - k]? else C[i]?
  | [], C, k, i, _ => by rw [if_neg (by simp)]; rfl
  | v :: r, C, k, i, h => by
    simp only [List.length_cons] at h
    rw [setL, setL_at r _ _ _ (by simp; omega)]
    by_cases h1 : k + 1 ≤ i ∧ i < k + 1 + r.length
    · rw [if_pos h1, if_pos (by simp only [List.length_cons]; omega)]
      obtain ⟨j, hj⟩ : ∃ j, i - k = j + 1 := ⟨i - k - 1, by omega⟩
      rw [hj, List.getElem?_cons_succ]
      congr 1
      omega
    · rw [if_neg h1]
      by_cases e : k = i
      · subst e
        rw [if_pos (by simp only [List.length_cons]; omega), Array.getElem?_setIfInBounds_self_of_lt (by omega)]
        simp
      · rw [if_neg (by simp only [List.length_cons]; omega), Array.getElem?_setIfInBounds_ne e]
theorem setL_all {L : List Value} {C : Array Value} (h : L.length = C.size) : setL C 0 L = L.toArray := by
  apply Array.ext_getElem?
  intro i
  rw [setL_at _ _ _ _ (by omega)]
  by_cases hi : i < L.length
  · rw [if_pos (by omega)]; simp
  · rw [if_neg (by omega), Array.getElem?_eq_none (by omega), Array.getElem?_eq_none (by simp; omega)]
theorem Blk.putL {b : Nat} : ∀ (L : List Value) {C : Array Value} {w : World} (k : Nat), Blk w b C → k + L.length ≤ C.size → Blk (putC w b k L) b (setL C k L)
  | [], _, _, _, h, _ => h
  | v :: r, C, w, k, h, hk => by
    simp only [List.length_cons] at hk
    exact Blk.putL r (k + 1) (h.set k (by omega) v) (by simp; omega)
/-- The whole block is written. -/
theorem Blk.putC {w : World} {b : Nat} {C : Array Value} (h : Blk w b C) (L : List Value) (hl : L.length = C.size) : Blk (putC w b 0 L) b L.toArray := by
  rw [← setL_all hl]
  exact Blk.putL L 0 h (by omega)
theorem Blk.farC {b c : Nat} {C : Array Value} (hc : c ≠ b) : ∀ (L : List Value) {w : World} (k : Nat), Blk w b C → Blk (Go.Proofs.YtpikopdfkhagmaaGreatDoor.putC w c k L) b C
  | [], _, _, h => h
  | v :: r, _, k, h => Blk.farC hc r (k + 1) (h.far hc v)
theorem Keeps.putC {a : World} {b : Nat} (hp : a.heap.size ≤ b) : ∀ (L : List Value) {w : World} (k : Nat), Keeps a w → Keeps a (Go.Proofs.YtpikopdfkhagmaaGreatDoor.putC w b k L)
  | [], _, _, h => h
  | v :: r, _, k, h => Keeps.putC hp r (k + 1) (h.setCell hp v)
end Go.Proofs.YtpikopdfkhagmaaGreatDoor
namespace Go.Proofs.YtpikopdfkhagmaaGreatDoor
open Go.RowKit
variable {p p' : Bool}
attribute [local go_sem] Keeps.refl Keeps.alloc Keeps.drew Keeps.drewN

def sumW : List Lk → Nat
  | [] => 0
  | l :: r => l.waits.length + sumW r
theorem sumW_append (xs ys : List Lk) : sumW (xs ++ ys) = sumW xs + sumW ys := by
  induction xs with
  | nil => simp [sumW]
  | cons x r ih => simp only [List.cons_append, sumW, ih]; omega
theorem sumW_take {ls : List Lk} {k : Nat} {l : Lk} (h : ls[k]? = some l) : sumW (ls.take (k + 1)) = sumW (ls.take k) + l.waits.length := by
  rw [List.take_add_one, h, sumW_append]
  simp [sumW]
theorem sumW_le (ls : List Lk) (k : Nat) : sumW (ls.take k) ≤ sumW ls := by
  have := sumW_append (ls.take k) (ls.drop k)
  rw [List.take_append_drop] at this
  omega
theorem sumW_mem {ls : List Lk} {k : Nat} {l : Lk} (h : ls[k]? = some l) : l.waits.length ≤ sumW ls := by
  have := sumW_take h
  have := sumW_le ls (k + 1)
  omega
/-- How many numbers locks hold. -/
def sizeN (ls : List Lk) : Nat := ls.length + sumW ls
end Go.Proofs.YtpikopdfkhagmaaGreatDoor
namespace Go.Proofs.YtpikopdfkhagmaaGreatDoor
open Go.RowKit

/-- Nothing old has turned, and block b holds C. -/
structure Has (w : World) (b : Nat) (C : Array Value) (w' : World) : Prop where
  keeps : Keeps w w'
  box : Blk w' b C
theorem Has.go {w : World} {b : Nat} {C : Array Value} {w1 w2 : World} (h : Has w b C w1) (k : Keeps w1 w2) : Has w b C w2 := ⟨h.keeps.trans k, h.box.keeps k⟩
theorem Has.set {w : World} {b : Nat} {C : Array Value} {w1 : World} (h : Has w b C w1) {r : Nat} (hr : w.heap.size ≤ r) (hb : r ≠ b) (k : Nat) (v : Value) : Has w b C (w1.setCell ⟨r, k, none⟩ v) := ⟨h.keeps.setCell hr v, h.box.far hb v⟩
theorem Has.put {w : World} {b : Nat} {C : Array Value} {w1 : World} (h : Has w b C w1) {r : Nat} (hr : w.heap.size ≤ r) (hb : r ≠ b) (k : Nat) (L : List Value) : Has w b C (putC w1 r k L) := ⟨Keeps.putC hr L k h.keeps, Blk.farC hb L k h.box⟩
end Go.Proofs.YtpikopdfkhagmaaGreatDoor
namespace Go.Proofs.YtpikopdfkhagmaaGreatDoor
open Go.RowKit
theorem Own.free {α : Type} {e : TypeId} {sz : Nat} {c : α → Array Value} {w : World} {base b cap n : Nat} {xs : List α} (h : Own e sz c w base (.slice (Option.some ⟨b, 0, none⟩) n cap) xs) : base ≤ b ∧ b < w.heap.size ∧ ∀ k, w.frozen? ⟨b, k, none⟩ = false := by
  obtain ⟨_, ⟨e, _⟩ | ⟨b', cp, cur, e, hb, hh, _⟩⟩ := h
  · simp at e
  · simp only [Value.slice.injEq, Option.some.injEq, Addr.mk.injEq] at e
    obtain ⟨⟨rfl, -⟩, -, -⟩ := e
    have hlt : b < w.heap.size := by
      rcases Nat.lt_or_ge b w.heap.size with hlt | hge
      · exact hlt
      · rw [Array.getElem?_eq_none hge] at hh; cases hh
    exact ⟨hb, hlt, fun k => by simp [World.frozen?, hh]⟩
theorem Blk.grown {w w' : World} {b : Nat} {C : Array Value} {row : Option Nat} (h : Blk w b C) (hg : w.grownBy w' row) (hr : ∀ k, row = some k → k ≠ b) : Blk w' b C := by
  have e := hg.block b h.lt (fun e => hr b e.symm rfl)
  exact ⟨Nat.lt_of_lt_of_le h.lt hg.size, fun k => (World.cell?_of_block (w := w) e).trans (h.cells k), fun k => (World.frozen?_of_block (w := w) e).trans (h.frozens k)⟩

end Go.Proofs.YtpikopdfkhagmaaGreatDoor
namespace Go.Proofs.YtpikopdfkhagmaaGreatDoor
open Go.RowKit
variable {p p' : Bool}
attribute [local go_sem] Keeps.refl Keeps.alloc Keeps.drew Keeps.drewN

/-- One lock is another one. -/
theorem Mine.swap {w w' : World} {lo hi hi' : Nat} {v : Value} {vs : List Lv} {ls : List Lk} (h : Mine w lo hi v vs ls) {k : Nat} {x y : Lv} {l : Lk} (hx : vs[k]? = some x) (O : Own 92 2 lvc w' lo v (vs.set k y))
    (g : ∀ b, v.ownBlock ≠ some b → x.row.ownBlock ≠ some b → b < w.heap.size → w'.heap[b]? = w.heap[b]?) (he : y.o = l.owner) (ho : OwnN w' lo y.row l.waits) (hh : hi ≤ hi')
    (hb : ∀ b, y.row.ownBlock = some b → (hi ≤ b ∧ b < hi') ∨ x.row.ownBlock = some b) : Mine w' lo hi' v (vs.set k y) (ls.set k l) := by
  have hv : ∀ b, y.row.ownBlock = some b → b < hi' ∧ v.ownBlock ≠ some b := by
    intro b e
    rcases hb b e with ⟨h1, h2⟩ | h1
    · exact ⟨h2, fun e' => by have := h.out b e'; omega⟩
    · exact ⟨Nat.lt_of_lt_of_le (h.inn k x b hx h1).1 hh, (h.inn k x b hx h1).2⟩
  have ha : ∀ (j : Nat) (z : Lv) (b : Nat), j ≠ k → vs[j]? = some z → y.row.ownBlock = some b → z.row.ownBlock = some b → False := by
    intro j z b hj hz e1 e2
    rcases hb b e1 with ⟨h1, h2⟩ | h1
    · have := (h.inn j z b hz e2).1; omega
    · exact hj (h.apart j k z x b hz hx e2 h1)
  refine ⟨by simp [h.len], O, fun b e => Nat.lt_of_lt_of_le (h.out b e) hh, ?_, ?_, ?_⟩
  · intro i z m hz hm
    rcases set_at hz with ⟨rfl, rfl⟩ | ⟨hik, hz2⟩ <;> rcases set_at hm with ⟨h1, rfl⟩ | ⟨h1, hm2⟩
    · exact ⟨he, ho⟩
    · exact absurd rfl h1
    · exact absurd h1 hik
    · obtain ⟨r1, r2⟩ := h.rows i z m hz2 hm2
      exact ⟨r1, r2.same fun b e => g b (h.inn i z b hz2 e).2 (fun e' => hik (h.apart i k z x b hz2 hx e e')) (r2.ltb b e).2⟩
  · intro i z b hz e
    rcases set_at hz with ⟨rfl, rfl⟩ | ⟨hik, hz2⟩
    · exact hv b e
    · exact ⟨Nat.lt_of_lt_of_le (h.inn i z b hz2 e).1 hh, (h.inn i z b hz2 e).2⟩
  · intro i j p q b hp hq e1 e2
    rcases set_at hp with ⟨rfl, rfl⟩ | ⟨hik, hp2⟩ <;> rcases set_at hq with ⟨rfl, rfl⟩ | ⟨hjk, hq2⟩
    · rfl
    · exact (ha j q b hjk hq2 e1 e2).elim
    · exact (ha i p b hik hp2 e2 e1).elim
    · exact h.apart i j p q b hp2 hq2 e1 e2
/-- Two cells of an element are written. -/
theorem Own.setTwo {w : World} {base b n cap : Nat} {vs : List Lv} (h : Own 92 2 lvc w base (.slice (Option.some ⟨b, 0, none⟩) n cap) vs) {k : Nat} {x : Lv} (hx : vs[k]? = Option.some x) (y : Lv) :
    Own 92 2 lvc ((w.setCell ⟨b, k * 2, none⟩ (.int .i64 y.o)).setCell ⟨b, k * 2 + 1, none⟩ y.row) base (.slice (Option.some ⟨b, 0, none⟩) n cap) (vs.set k y) := by
  have h1 := h.setAt lvc_size (i := k) (j := 0) (x := x) (y := { x with o := y.o }) (u := .int .i64 y.o) hx (by omega) rfl
  have hl := lt_of_some hx
  have h2 := h1.setAt lvc_size (i := k) (j := 1) (x := { x with o := y.o }) (y := y) (u := y.row) (List.getElem?_set_self hl) (by omega) rfl
  rw [List.set_set] at h2
  exact h2

/-- What make lays, of elements of whatever size, cell by cell. -/
theorem run_make_zero {P : Program} (t e : TypeId) (z : Value) (size bytes : Nat) (ht : P.underlying t = some (.slice e)) (hinfo : (P.info? e).map (fun i => (i.zero, i.size, i.bytes)) = some (some z, size, bytes))
    (n : Nat) (hbytes : bytes * n ≤ 281474976710656) (h63 : n ≤ 9223372036854775807) :
    ∀ w : World, (Instr.makeSlice t (.int .i64 (n : Int)) (.int .i64 (n : Int))).run P w = .ok (.slice (some ⟨w.heap.size, 0, none⟩) n n) (w.alloc (.cells (madeCells z.cells (n * size)) e)) := by
  obtain ⟨i, hi, hzz⟩ := Option.map_eq_some_iff.1 hinfo
  simp only [Prod.mk.injEq] at hzz
  obtain ⟨hz, hs, hb⟩ := hzz
  intro w
  have hb' : (i.bytes : Int) * (n : Int) ≤ 281474976710656 := by
    have h : ((i.bytes * n : Nat) : Int) ≤ 281474976710656 := by rw [hb]; omega
    rwa [Int.natCast_mul] at h
  have hr := run_make (P := P) w t e i z ht hi hz .i64 .i64 n n (by omega) (Int.le_refl _) hb' (by omega)
  simp only [Int.toNat_natCast, hs] at hr
  exact hr
abbrev Lv.zero : Lv := ⟨0, none, 0, 0⟩
theorem flat_zero (n : Nat) : (madeCells #[.int .i64 0, .slice none 0 0] (n * 2)).toList = flatC lvc (List.replicate n Lv.zero) := by
  apply List.ext_getElem?
  intro j
  by_cases hj : j < n * 2
  · have hq : j / 2 < n := by omega
    have := flatC_at lvc_size (List.replicate n Lv.zero) (j / 2) Lv.zero (by simp [hq]) (j % 2) (by omega)
    rw [show j / 2 * 2 + j % 2 = j from by omega] at this
    rw [this]
    simp only [madeCells, Array.getElem?_toList, Array.getElem?_map, Array.getElem?_range, hj, if_true, Option.map_some]
    rcases (show j % 2 = 0 ∨ j % 2 = 1 by omega) with e | e <;> simp [e]
  · rw [List.getElem?_eq_none (by simpa [madeCells] using hj), List.getElem?_eq_none]
    have := flatC_length lvc_size (List.replicate n Lv.zero)
    simp at this
    omega
/-- Locks that nobody has. -/
theorem Mine.zero (w : World) (n : Nat) (hn : n ≤ maxLen) : Mine (w.alloc (.cells (madeCells #[.int .i64 0, .slice none 0 0] (n * 2)) 92)) w.heap.size (w.heap.size + 1) (.slice (some ⟨w.heap.size, 0, none⟩) n n) (List.replicate n Lv.zero) (List.replicate n ⟨0, []⟩) := by
  refine ⟨by simp, ?_, ?_, ?_, ?_, ?_⟩
  · have := World.ownsRow_lit (e := 92) (size := 2) (base := w.heap.size) w (madeCells #[.int .i64 0, .slice none 0 0] (n * 2)) n (Nat.le_refl _) hn (size_madeCells _ _)
    rw [flat_zero] at this
    unfold Own
    rw [List.length_replicate]
    exact this
  · intro b hb
    simp only [Value.ownBlock, Option.some.injEq] at hb
    omega
  · intro i x l hx hl
    have e1 := List.eq_of_mem_replicate (List.mem_of_getElem? hx)
    have e2 := List.eq_of_mem_replicate (List.mem_of_getElem? hl)
    subst e1 e2
    exact ⟨rfl, World.ownsRow_nil _ _ _ _⟩
  · intro i x b hx hb
    have e1 := List.eq_of_mem_replicate (List.mem_of_getElem? hx)
    subst e1
    simp [Value.ownBlock] at hb
  · intro i j x y b hx hy h1 h2
    have e1 := List.eq_of_mem_replicate (List.mem_of_getElem? hx)
    subst e1
    simp [Value.ownBlock] at h1

end Go.Proofs.YtpikopdfkhagmaaGreatDoor
namespace Go.Proofs.YtpikopdfkhagmaaGreatDoor
open Go.RowKit

/-- It is a task of a fixed priority. -/
def fixB (t : Tsk) : Bool := taskB t && t.cls == 2
def fixBefB (a b : Tsk) : Bool := fixB a && fixB b && (if a.prio != b.prio then decide (b.prio < a.prio) else if a.seq != b.seq then decide (a.seq < b.seq) else decide (a.no < b.no))
/-- It goes behind. -/
def turnB (t : Tsk) (seq : Int) : Bool := fixB t && !(t.round == 0) && !decide (1 < t.left) && inB seq 0 1000000
/-- What it is then. -/
def fixSpendT (t : Tsk) (seq : Int) : Tsk := if fixB t && !(t.round == 0) then (if decide (1 < t.left) then { t with left := t.left - 1 } else if inB seq 0 1000000 then { t with left := t.round, seq := seq } else t) else t

/-- What such a task holds. -/
structure IsFix (t : Tsk) : Prop where
  cls : t.cls = 2
  no : 1 ≤ t.no ∧ t.no ≤ 1000
  cpu : 0 ≤ t.cpu ∧ t.cpu ≤ 3
  st : 1 ≤ t.st ∧ t.st ≤ 2
  prio : 1 ≤ t.prio ∧ t.prio ≤ 20
  round : 0 ≤ t.round ∧ t.round ≤ 10
  left : min t.round 1 ≤ t.left ∧ t.left ≤ t.round
  seq : 0 ≤ t.seq ∧ t.seq ≤ 1000000
  none : t.q = 0 ∧ t.p = 0 ∧ t.due = 0 ∧ t.nice = 0 ∧ t.v = 0
theorem fixB_iff (t : Tsk) : fixB t = true ↔ IsFix t := by
  constructor
  · intro h
    simp only [fixB, Bool.and_eq_true, beq_iff_eq] at h
    obtain ⟨h1, h2⟩ := h
    simp [taskB, cleanB, ofClassB, h2, dueZ, fairZ, inB_iff] at h1
    obtain ⟨⟨⟨⟨hno, hcpu⟩, hst⟩, hz⟩, ⟨⟨hp, hr⟩, hl⟩, hs⟩ := h1
    exact ⟨h2, by omega, by omega, by omega, by omega, by omega, by omega, by omega, by omega, by omega, by omega, by omega, by omega⟩
  · rintro ⟨h2, hno, hcpu, hst, hp, hr, hl, hs, h0, h1, h3, h4, h5⟩
    simp [fixB, taskB, cleanB, ofClassB, h2, dueZ, fairZ, inB_iff, h0, h1, h3, h4, h5]
    omega
/-- So many ticks spent, of at most its round. -/
def turned (t : Tsk) (seq i : Int) : Tsk := if i < t.left then { t with left := t.left - i } else { t with left := t.round - (i - t.left), seq := seq }
end Go.Proofs.YtpikopdfkhagmaaGreatDoor
namespace Go.Proofs.YtpikopdfkhagmaaGreatDoor
open Go.RowKit
attribute [local go_sem] Keeps.refl Keeps.alloc Keeps.drew Keeps.drewN

set_option maxRecDepth 100000 in
theorem l5Fixed_any (t : Tsk) (w : World) :
    Calls Tryz.prog 137 #[tk t] w fun e w' => e = .returned (.bool (fixB t)) ∧ Keeps w w' := by
  go_enter Tryz.func137, Tryz.ntmps137
  go_wp2_with fail
  refine (specTaskOk_any t _).mono ?_
  rintro e w1 ⟨rfl, k1⟩
  have B1 := (Blk.new w (tc t) 90).keeps k1
  have K1 : Keeps w w1 := ((Keeps.refl w).alloc _).trans k1
  obtain ⟨_, b1, b2⟩ := B1
  clear k1
  cases hb : taskB t
  · have Hr : Hid (fixB t = false) := by show _ = _; simp [fixB, hb]
    go_wp2
    go_ret
    exact ⟨by rw [Hr.out]; rfl, K1⟩
  · have Hr : Hid (fixB t = (t.cls == 2)) := by show _ = _; simp [fixB, hb]
    go_wp2
    go_ret
    exact ⟨by rw [Hr.out]; rfl, K1⟩

set_option maxRecDepth 100000 in
set_option maxHeartbeats 4000000 in
theorem specFixedSpend_any (t : Tsk) (seq : Int) (w : World) :
    Calls Tryz.prog 129 #[tk t, .int .i64 seq] w fun e w' => e = .returned (.tuple #[tk (fixSpendT t seq), .bool (turnB t seq)]) ∧ Keeps w w' := by
  go_enter Tryz.func129, Tryz.ntmps129
  go_wp2_with fail
  refine (l5Fixed_any t _).mono ?_
  rintro e w1 ⟨rfl, k1⟩
  have B1 := ((Blk.new w (tc t) 90).alloc (.cells (tc Tsk.zero) 90)).keeps k1
  have B2 := (Blk.new (w.alloc (.cells (tc t) 90)) (tc Tsk.zero) 90).keeps k1
  have K1 : Hid (Keeps w w1) := (((Keeps.refl w).alloc _).alloc _).trans k1
  simp only [World.size_alloc] at B2
  have R : Hid (Blk w1 (w.heap.size + 1) (tc Tsk.zero)) := B2
  obtain ⟨_, b1, b2⟩ := B1
  obtain ⟨_, c1, c2⟩ := B2
  clear k1
  cases hd : fixB t
  · have Hn : Hid (fixSpendT t seq = t) := by show _ = _; simp [fixSpendT, hd]
    have Hg : Hid (turnB t seq = false) := by show _ = _; simp [turnB, hd]
    go_wp2
    have D := R.out.putC (tc (t)).toList rfl
    have K := Keeps.putC (b := w.heap.size + 1) (by omega) (tc (t)).toList 0 K1.out
    change bodyPost _ _ _ _ _ (putC w1 (w.heap.size + 1) 0 (tc (t)).toList)
    generalize putC w1 (w.heap.size + 1) 0 (tc (t)).toList = Z at D K ⊢
    exact bodyPost_ret (v := .tuple #[tk (t), .bool false]) (by simp [results, Tryz.results129, go_sem, D.cells]) rfl ⟨by rw [Hn.out, Hg.out], K⟩
  · cases hr : (t.round == 0)
    rotate_left
    · have Hn : Hid (fixSpendT t seq = t) := by show _ = _; simp [fixSpendT, hr]
      have Hg : Hid (turnB t seq = false) := by show _ = _; simp [turnB, hr]
      go_wp2
      have D := R.out.putC (tc (t)).toList rfl
      have K := Keeps.putC (b := w.heap.size + 1) (by omega) (tc (t)).toList 0 K1.out
      change bodyPost _ _ _ _ _ (putC w1 (w.heap.size + 1) 0 (tc (t)).toList)
      generalize putC w1 (w.heap.size + 1) 0 (tc (t)).toList = Z at D K ⊢
      exact bodyPost_ret (v := .tuple #[tk (t), .bool false]) (by simp [results, Tryz.results129, go_sem, D.cells]) rfl ⟨by rw [Hn.out, Hg.out], K⟩
    · have H := (fixB_iff t).1 hd
      obtain ⟨r0, r1⟩ := H.round
      obtain ⟨l0, l1⟩ := H.left
      clear H
      cases hl : decide (1 < t.left)
      rotate_left
      · have Hn : Hid (fixSpendT t seq = { t with left := t.left - 1 }) := by show _ = _; simp only [fixSpendT, hd, hr, hl, Bool.not_false, Bool.and_true, if_true]
        have Hg : Hid (turnB t seq = false) := by show _ = _; simp only [turnB, hl, Bool.not_true, Bool.and_false, Bool.false_and]
        go_wp2
        have D := (R.out.far (c := w.heap.size) (o := 7) (by omega) (.int .i64 (t.left - 1))).putC (tc ({ t with left := t.left - 1 })).toList rfl
        have K := Keeps.putC (b := w.heap.size + 1) (by omega) (tc ({ t with left := t.left - 1 })).toList 0 (K1.out.setCell (p := ⟨w.heap.size, 7, none⟩) (Nat.le_refl _) (.int .i64 (t.left - 1)))
        change bodyPost _ _ _ _ _ (putC (w1.setCell ⟨w.heap.size, 7, none⟩ (.int .i64 (t.left - 1))) (w.heap.size + 1) 0 (tc ({ t with left := t.left - 1 })).toList)
        generalize putC (w1.setCell ⟨w.heap.size, 7, none⟩ (.int .i64 (t.left - 1))) (w.heap.size + 1) 0 (tc ({ t with left := t.left - 1 })).toList = Z at D K ⊢
        exact bodyPost_ret (v := .tuple #[tk ({ t with left := t.left - 1 }), .bool false]) (by simp [results, Tryz.results129, go_sem, D.cells]) rfl ⟨by rw [Hn.out, Hg.out], K⟩
      · cases hi : inB seq 0 1000000
        · have Hn : Hid (fixSpendT t seq = t) := by show _ = _; simp only [fixSpendT, hd, hr, hl, hi, Bool.not_false, Bool.and_true, if_true, Bool.false_eq_true, if_false]
          have Hg : Hid (turnB t seq = false) := by show _ = _; simp only [turnB, hi, Bool.and_false]
          go_wp2_with (go_at_call 29; refine (l1In_any _ _ _ _).mono ?_; rintro e w' ⟨rfl, hw'⟩; have hw2 := hw'.symm; subst hw2)
          have D := R.out.putC (tc (t)).toList rfl
          have K := Keeps.putC (b := w.heap.size + 1) (by omega) (tc (t)).toList 0 K1.out
          change bodyPost _ _ _ _ _ (putC w1 (w.heap.size + 1) 0 (tc (t)).toList)
          generalize putC w1 (w.heap.size + 1) 0 (tc (t)).toList = Z at D K ⊢
          exact bodyPost_ret (v := .tuple #[tk (t), .bool false]) (by simp [results, Tryz.results129, go_sem, D.cells]) rfl ⟨by rw [Hn.out, Hg.out], K⟩
        · have Hn : Hid (fixSpendT t seq = { t with left := t.round, seq := seq }) := by show _ = _; simp only [fixSpendT, hd, hr, hl, hi, Bool.not_false, Bool.and_true, if_true, Bool.false_eq_true, if_false]
          have Hg : Hid (turnB t seq = true) := by show _ = _; simp only [turnB, hd, hr, hl, hi, Bool.not_false, Bool.and_true]
          go_wp2_with (go_at_call 29; refine (l1In_any _ _ _ _).mono ?_; rintro e w' ⟨rfl, hw'⟩; have hw2 := hw'.symm; subst hw2)
          have D := ((R.out.far (c := w.heap.size) (o := 7) (by omega) (.int .i64 (t.round))).far (c := w.heap.size) (o := 11) (by omega) (.int .i64 (seq))).putC (tc ({ t with left := t.round, seq := seq })).toList rfl
          have K := Keeps.putC (b := w.heap.size + 1) (by omega) (tc ({ t with left := t.round, seq := seq })).toList 0 ((K1.out.setCell (p := ⟨w.heap.size, 7, none⟩) (Nat.le_refl _) (.int .i64 (t.round))).setCell (p := ⟨w.heap.size, 11, none⟩) (Nat.le_refl _) (.int .i64 (seq)))
          change bodyPost _ _ _ _ _ (putC ((w1.setCell ⟨w.heap.size, 7, none⟩ (.int .i64 (t.round))).setCell ⟨w.heap.size, 11, none⟩ (.int .i64 (seq))) (w.heap.size + 1) 0 (tc ({ t with left := t.round, seq := seq })).toList)
          generalize putC ((w1.setCell ⟨w.heap.size, 7, none⟩ (.int .i64 (t.round))).setCell ⟨w.heap.size, 11, none⟩ (.int .i64 (seq))) (w.heap.size + 1) 0 (tc ({ t with left := t.round, seq := seq })).toList = Z at D K ⊢
          exact bodyPost_ret (v := .tuple #[tk ({ t with left := t.round, seq := seq }), .bool true]) (by simp [results, Tryz.results129, go_sem, D.cells]) rfl ⟨by rw [Hn.out, Hg.out], K⟩

set_option maxRecDepth 100000 in
set_option maxHeartbeats 2000000 in
theorem specFixedBefore_any (a b : Tsk) (w : World) :
    Calls Tryz.prog 133 #[tk a, tk b] w fun e w' => e = .returned (.bool (fixBefB a b)) ∧ Keeps w w' := by
  go_enter Tryz.func133, Tryz.ntmps133
  go_wp2_with fail
  have kW : Keeps w ((w.alloc (.cells (tc a) 90)).alloc (.cells (tc b) 90)) := ((Keeps.refl w).alloc _).alloc _
  have r1 : ∀ w', Keeps ((w.alloc (.cells (tc a) 90)).alloc (.cells (tc b) 90)) w' → ∀ k, w'.cell? ⟨w.heap.size, k, none⟩ = (tc a)[k]? := fun w' h => (((Blk.new w (tc a) 90).alloc _).keeps h).cells
  have r2 : ∀ w', Keeps ((w.alloc (.cells (tc a) 90)).alloc (.cells (tc b) 90)) w' → ∀ k, w'.cell? ⟨w.heap.size + 1, k, none⟩ = (tc b)[k]? := fun w' h => by
    have := (Blk.new (w.alloc (.cells (tc a) 90)) (tc b) 90).keeps h
    simp only [World.size_alloc] at this
    exact this.cells
  generalize (w.alloc (.cells (tc a) 90)).alloc (.cells (tc b) 90) = W at *
  refine (l5Fixed_any a _).mono ?_
  rintro e w1 ⟨rfl, k1⟩
  cases ha : fixB a
  · have Hr : Hid (fixBefB a b = false) := by show _ = _; simp [fixBefB, ha]
    go_wp2
    go_ret
    exact ⟨by rw [Hr.out]; rfl, kW.trans k1⟩
  · go_wp2_with fail
    refine (l5Fixed_any b _).mono ?_
    rintro e w2 ⟨rfl, k2⟩
    have K2 := k1.trans k2
    cases hb : fixB b
    · have Hr : Hid (fixBefB a b = false) := by show _ = _; simp [fixBefB, hb]
      go_wp2
      go_ret
      exact ⟨by rw [Hr.out]; rfl, kW.trans K2⟩
    · cases h1 : (a.prio != b.prio)
      · cases h2 : (a.seq != b.seq)
        · have Hr : Hid (fixBefB a b = decide (a.no < b.no)) := by show _ = _; simp only [fixBefB, ha, hb, h1, h2, Bool.true_and, Bool.false_eq_true, if_false]
          go_wp2
          go_ret
          exact ⟨by rw [Hr.out]; rfl, kW.trans K2⟩
        · have Hr : Hid (fixBefB a b = decide (a.seq < b.seq)) := by show _ = _; simp only [fixBefB, ha, hb, h1, h2, Bool.true_and, Bool.false_eq_true, if_false, if_true]
          go_wp2
          go_ret
          exact ⟨by rw [Hr.out]; rfl, kW.trans K2⟩
      · have Hr : Hid (fixBefB a b = decide (b.prio < a.prio)) := by show _ = _; simp only [fixBefB, ha, hb, h1, Bool.true_and, if_true]
        go_wp2
        go_ret
        exact ⟨by rw [Hr.out]; rfl, kW.trans K2⟩
end Go.Proofs.YtpikopdfkhagmaaGreatDoor
