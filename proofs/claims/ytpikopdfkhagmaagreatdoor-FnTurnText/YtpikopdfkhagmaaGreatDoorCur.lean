/-
  A block that holds these cells.
  A task as a value, and the laws' own helpers over one: a copy is made, two are held against each other.
  Rows of elements of one size that lie one behind the other; a row of one's own that grows.
  A task is written over an element of a row.
  All but one block is as it was.
  What is drawn: contracts of the model's cursor over a text's bytes. Which numbers are drawn is not said: only how far they go, and that nothing but the cursor turns.
  How long a drawn row is.
-/
import Derived.Test.YtpikopdfkhagmaaGreatDoorLate2
import Derived.Laws.ResultCell
import Derived.Deep.RegionHeld3
import Derived.Deep.OwnRows
namespace Go.Proofs.YtpikopdfkhagmaaGreatDoor
open Go.RowKit

theorem setCell_same {w : World} {b o : Nat} {u : Value} (h : w.cell? ⟨b, o, none⟩ = some u) (v : Value) : (w.setCell ⟨b, o, none⟩ v).cell? ⟨b, o, none⟩ = some v := World.cell?_setCell_same (h := h) ..
theorem setCell_other {w : World} {b o b' o' : Nat} (h : b ≠ b' ∨ o ≠ o') (v : Value) : (w.setCell ⟨b, o, none⟩ v).cell? ⟨b', o', none⟩ = w.cell? ⟨b', o', none⟩ := by
  refine World.cell?_setCell_other (h := ?_) ..
  simp only [ne_eq, Addr.mk.injEq, not_and]
  intro e f; omega
/-- The block b holds the cells C, and may be written. -/
structure Blk (w : World) (b : Nat) (C : Array Value) : Prop where
  lt : b < w.heap.size
  cells : ∀ k, w.cell? ⟨b, k, none⟩ = C[k]?
  frozens : ∀ k, w.frozen? ⟨b, k, none⟩ = false
theorem Blk.keeps {w w' : World} {b : Nat} {C : Array Value} (h : Blk w b C) (k : Keeps w w') : Blk w' b C :=
  ⟨Nat.lt_of_lt_of_le h.lt k.size, fun i => (k.cells b i h.lt).trans (h.cells i), fun i => (k.frozens b i h.lt).trans (h.frozens i)⟩
theorem Blk.new (w : World) (C : Array Value) (t : TypeId) : Blk (w.alloc (.cells C t)) w.heap.size C :=
  ⟨by simp [go_sem], fun k => by simp [go_sem], fun k => by simp [go_sem]⟩
/-- The rules of a new block; what was there stays. -/
theorem blkR (w : World) (C : Array Value) (t : TypeId) : ∀ w', Keeps (w.alloc (.cells C t)) w' → ∀ j, w'.cell? ⟨w.heap.size, j, none⟩ = C[j]? := fun _ k => ((Blk.new w C t).keeps k).cells
theorem blkK (w : World) (o : Obj) : Keeps w (w.alloc o) := (Keeps.refl w).alloc o
theorem Blk.alloc {w : World} {b : Nat} {C : Array Value} (h : Blk w b C) (o : Obj) : Blk (w.alloc o) b C := h.keeps ((Keeps.refl w).alloc o)
theorem Blk.far {w : World} {b c o : Nat} {C : Array Value} (h : Blk w b C) (hc : c ≠ b) (x : Value) : Blk (w.setCell ⟨c, o, none⟩ x) b C :=
  ⟨by simpa using h.lt, fun k => by rw [setCell_other (.inl hc)]; exact h.cells k, fun k => by simpa using h.frozens k⟩
theorem Blk.set {w : World} {b : Nat} {C : Array Value} (h : Blk w b C) (k : Nat) (hk : k < C.size) (x : Value) : Blk (w.setCell ⟨b, k, none⟩ x) b (C.setIfInBounds k x) :=
  ⟨by simpa using h.lt, fun i => by
    by_cases e : k = i
    · subst e
      rw [Array.getElem?_setIfInBounds_self_of_lt hk]
      exact setCell_same (u := C[k]) (by rw [h.cells]; simp [hk]) _
    · rw [setCell_other (.inr e), h.cells, Array.getElem?_setIfInBounds_ne e], fun i => by simpa using h.frozens i⟩
end Go.Proofs.YtpikopdfkhagmaaGreatDoor
namespace Go.Proofs.YtpikopdfkhagmaaGreatDoor
open Go.RowKit

/-- A task's numbers. -/
structure Tsk where
  no : Int
  cls : Int
  cpu : Int
  st : Int
  idle : Bool
  q : Int
  p : Int
  left : Int
  due : Int
  prio : Int
  round : Int
  seq : Int
  nice : Int
  v : Int

/-- No task. -/
def Tsk.zero : Tsk := ⟨0, 0, 0, 0, false, 0, 0, 0, 0, 0, 0, 0, 0, 0⟩

/-- Its cells, in their order. -/
abbrev tc (t : Tsk) : Array Value := #[.int .i64 t.no, .int .i64 t.cls, .int .i64 t.cpu, .int .i64 t.st, .bool t.idle, .int .i64 t.q, .int .i64 t.p, .int .i64 t.left, .int .i64 t.due, .int .i64 t.prio, .int .i64 t.round, .int .i64 t.seq, .int .i64 t.nice, .int .i64 t.v]
/-- The task as a value. -/
abbrev tk (t : Tsk) : Value := .agg (tc t)

/-- The block b is filled with a task. -/
abbrev putT (w : World) (b : Nat) (t : Tsk) : World := (((((((((((((w.setCell ⟨b, 0, none⟩ (.int .i64 t.no)).setCell ⟨b, 1, none⟩ (.int .i64 t.cls)).setCell ⟨b, 2, none⟩ (.int .i64 t.cpu)).setCell ⟨b, 3, none⟩ (.int .i64 t.st)).setCell ⟨b, 4, none⟩ (.bool t.idle)).setCell ⟨b, 5, none⟩ (.int .i64 t.q)).setCell ⟨b, 6, none⟩ (.int .i64 t.p)).setCell ⟨b, 7, none⟩ (.int .i64 t.left)).setCell ⟨b, 8, none⟩ (.int .i64 t.due)).setCell ⟨b, 9, none⟩ (.int .i64 t.prio)).setCell ⟨b, 10, none⟩ (.int .i64 t.round)).setCell ⟨b, 11, none⟩ (.int .i64 t.seq)).setCell ⟨b, 12, none⟩ (.int .i64 t.nice)).setCell ⟨b, 13, none⟩ (.int .i64 t.v)
theorem Blk.putT {w : World} {b : Nat} {s : Tsk} (h : Blk w b (tc s)) (t : Tsk) : Blk (putT w b t) b (tc t) := by
  have h0 := h.set 0 (by simp) (.int .i64 t.no)
  simp only [List.setIfInBounds_toArray, List.set_cons_zero] at h0
  have h1 := h0.set 1 (by simp) (.int .i64 t.cls)
  simp only [List.setIfInBounds_toArray, List.set_cons_zero, List.set_cons_succ] at h1
  have h2 := h1.set 2 (by simp) (.int .i64 t.cpu)
  simp only [List.setIfInBounds_toArray, List.set_cons_zero, List.set_cons_succ] at h2
  have h3 := h2.set 3 (by simp) (.int .i64 t.st)
  simp only [List.setIfInBounds_toArray, List.set_cons_zero, List.set_cons_succ] at h3
  have h4 := h3.set 4 (by simp) (.bool t.idle)
  simp only [List.setIfInBounds_toArray, List.set_cons_zero, List.set_cons_succ] at h4
  have h5 := h4.set 5 (by simp) (.int .i64 t.q)
  simp only [List.setIfInBounds_toArray, List.set_cons_zero, List.set_cons_succ] at h5
  have h6 := h5.set 6 (by simp) (.int .i64 t.p)
  simp only [List.setIfInBounds_toArray, List.set_cons_zero, List.set_cons_succ] at h6
  have h7 := h6.set 7 (by simp) (.int .i64 t.left)
  simp only [List.setIfInBounds_toArray, List.set_cons_zero, List.set_cons_succ] at h7
  have h8 := h7.set 8 (by simp) (.int .i64 t.due)
  simp only [List.setIfInBounds_toArray, List.set_cons_zero, List.set_cons_succ] at h8
  have h9 := h8.set 9 (by simp) (.int .i64 t.prio)
  simp only [List.setIfInBounds_toArray, List.set_cons_zero, List.set_cons_succ] at h9
  have h10 := h9.set 10 (by simp) (.int .i64 t.round)
  simp only [List.setIfInBounds_toArray, List.set_cons_zero, List.set_cons_succ] at h10
  have h11 := h10.set 11 (by simp) (.int .i64 t.seq)
  simp only [List.setIfInBounds_toArray, List.set_cons_zero, List.set_cons_succ] at h11
  have h12 := h11.set 12 (by simp) (.int .i64 t.nice)
  simp only [List.setIfInBounds_toArray, List.set_cons_zero, List.set_cons_succ] at h12
  have h13 := h12.set 13 (by simp) (.int .i64 t.v)
  simp only [List.setIfInBounds_toArray, List.set_cons_zero, List.set_cons_succ] at h13
  exact h13
theorem Blk.farT {w : World} {b c : Nat} {C : Array Value} (h : Blk w b C) (hc : c ≠ b) (t : Tsk) : Blk (Go.Proofs.YtpikopdfkhagmaaGreatDoor.putT w c t) b C := ((((((((((((((h.far hc _).far hc _).far hc _).far hc _).far hc _).far hc _).far hc _).far hc _).far hc _).far hc _).far hc _).far hc _).far hc _).far hc _)
theorem Keeps.putT {a w : World} {b : Nat} (h : Keeps a w) (hp : a.heap.size ≤ b) (t : Tsk) : Keeps a (Go.Proofs.YtpikopdfkhagmaaGreatDoor.putT w b t) := ((((((((((((((h.setCell hp _).setCell hp _).setCell hp _).setCell hp _).setCell hp _).setCell hp _).setCell hp _).setCell hp _).setCell hp _).setCell hp _).setCell hp _).setCell hp _).setCell hp _).setCell hp _)

end Go.Proofs.YtpikopdfkhagmaaGreatDoor
namespace Go.Proofs.YtpikopdfkhagmaaGreatDoor
open Go.RowKit

/-- The elements xs lie in the world, one behind the other, from the address on; c tells an element's cells. -/
def Lies {α : Type} (sz : Nat) (c : α → Array Value) (w : World) (a : Option Addr) (xs : List α) : Prop :=
  xs = [] ∨ ∃ b off, a = some ⟨b, off, none⟩ ∧ b < w.heap.size ∧ ∀ i x, xs[i]? = some x → ∀ k, k < sz → w.cell? ⟨b, off + i * sz + k, none⟩ = (c x)[k]?
theorem Lies.keeps {α : Type} {sz : Nat} {c : α → Array Value} {w w' : World} {a : Option Addr} {xs : List α} (h : Lies sz c w a xs) (k : Keeps w w') : Lies sz c w' a xs := by
  rcases h with h | ⟨b, off, rfl, hb, h⟩
  · exact .inl h
  · exact .inr ⟨b, off, rfl, Nat.lt_of_lt_of_le hb k.size, fun i x hx j hj => (k.cells _ _ hb).trans (h i x hx j hj)⟩
theorem Lies.at {α : Type} {sz : Nat} {c : α → Array Value} {w : World} {a : Option Addr} {xs : List α} (h : Lies sz c w a xs) {i : Nat} {x : α} (hx : xs[i]? = some x) (h0 : 0 < sz) :
    ∃ b off, a = some ⟨b, off, none⟩ ∧ (∀ w', Keeps w w' → w'.cell? ⟨b, off + i * sz, none⟩ = (c x)[0]?) ∧ ∀ w', Keeps w w' → ∀ k, k < sz → w'.cell? ⟨b, off + i * sz + k, none⟩ = (c x)[k]? := by
  rcases h with rfl | ⟨b, off, rfl, hb, h⟩
  · simp at hx
  · exact ⟨b, off, rfl, fun w' k => (k.cells _ _ hb).trans (h i x hx 0 h0), fun w' k j hj => (k.cells _ _ hb).trans (h i x hx j hj)⟩
theorem Lies.nil {α : Type} (sz : Nat) (c : α → Array Value) (w : World) (a : Option Addr) : Lies sz c w a [] := .inl rfl
end Go.Proofs.YtpikopdfkhagmaaGreatDoor
namespace Go.Proofs.YtpikopdfkhagmaaGreatDoor
open Go.RowKit

/-- From the place o of the block b on stands the task t. -/
abbrev putAt (w : World) (b o : Nat) (t : Tsk) : World := ((((((((((((((w.setCell ⟨b, o, none⟩ (.int .i64 t.no)).setCell ⟨b, o + 1, none⟩ (.int .i64 t.cls)).setCell ⟨b, o + 2, none⟩ (.int .i64 t.cpu)).setCell ⟨b, o + 3, none⟩ (.int .i64 t.st)).setCell ⟨b, o + 4, none⟩ (.bool t.idle)).setCell ⟨b, o + 5, none⟩ (.int .i64 t.q)).setCell ⟨b, o + 6, none⟩ (.int .i64 t.p)).setCell ⟨b, o + 7, none⟩ (.int .i64 t.left)).setCell ⟨b, o + 8, none⟩ (.int .i64 t.due)).setCell ⟨b, o + 9, none⟩ (.int .i64 t.prio)).setCell ⟨b, o + 10, none⟩ (.int .i64 t.round)).setCell ⟨b, o + 11, none⟩ (.int .i64 t.seq)).setCell ⟨b, o + 12, none⟩ (.int .i64 t.nice)).setCell ⟨b, o + 13, none⟩ (.int .i64 t.v))
theorem Keeps.putAt {a w : World} {b o : Nat} (h : Keeps a w) (hp : a.heap.size ≤ b) (t : Tsk) : Keeps a (Go.Proofs.YtpikopdfkhagmaaGreatDoor.putAt w b o t) := (((((((((((((h.setCell hp _).setCell hp _).setCell hp _).setCell hp _).setCell hp _).setCell hp _).setCell hp _).setCell hp _).setCell hp _).setCell hp _).setCell hp _).setCell hp _).setCell hp _).setCell hp _
end Go.Proofs.YtpikopdfkhagmaaGreatDoor
namespace Go.Proofs.YtpikopdfkhagmaaGreatDoor
open Go.RowKit

/-- Nothing that was there has turned, but for block g. -/
structure KeepsBut (g : Nat) (w w' : World) : Prop where
  os : w'.os = w.os
  tape : w'.tape = w.tape
  output : w'.output = w.output
  size : w.heap.size ≤ w'.heap.size
  block : ∀ k, k < w.heap.size → k ≠ g → w'.heap[k]? = w.heap[k]?
theorem KeepsBut.of {g : Nat} {w w' : World} (h : Keeps w w') : KeepsBut g w w' := ⟨Below.os h, Below.tape h, Below.output h, Below.size h, fun k hk _ => Below.block h k hk⟩
theorem KeepsBut.refl (g : Nat) (w : World) : KeepsBut g w w := .of (Keeps.refl w)
theorem KeepsBut.trans {g : Nat} {a b c : World} (h : KeepsBut g a b) (k : KeepsBut g b c) : KeepsBut g a c :=
  ⟨k.os.trans h.os, k.tape.trans h.tape, k.output.trans h.output, Nat.le_trans h.size k.size, fun i hi hg => (k.block i (Nat.lt_of_lt_of_le hi h.size) hg).trans (h.block i hi hg)⟩
theorem KeepsBut.alloc {g : Nat} {a b : World} (h : KeepsBut g a b) (o : Obj) : KeepsBut g a (b.alloc o) := h.trans (.of ((Keeps.refl b).alloc o))
theorem KeepsBut.drew {g : Nat} {a b : World} (h : KeepsBut g a b) : KeepsBut g a b.drew := h.trans (.of (Keeps.refl b).drew)
theorem KeepsBut.drewN {g : Nat} {a b : World} (h : KeepsBut g a b) (n : Nat) : KeepsBut g a (b.drewN n) := h.trans (.of ((Keeps.refl b).drewN n))
theorem KeepsBut.setCell {g : Nat} {a b : World} (h : KeepsBut g a b) (o : Nat) (v : Value) : KeepsBut g a (b.setCell ⟨g, o, none⟩ v) :=
  h.trans ⟨rfl, rfl, rfl, by simp [World.setCell], fun k _ hg => Below.heap_setCell _ _ _ _ hg⟩
theorem KeepsBut.setNew {g : Nat} {a b : World} (h : KeepsBut g a b) {p : Addr} (hp : a.heap.size ≤ p.block) (v : Value) : KeepsBut g a (b.setCell p v) :=
  ⟨h.os, h.tape, h.output, Nat.le_trans h.size (by simp [World.setCell]), fun k hk hg => (Below.heap_setCell _ _ _ _ (by omega)).trans (h.block k hk hg)⟩
theorem KeepsBut.cells {g : Nat} {w w' : World} (h : KeepsBut g w w') : ∀ b o, b < w.heap.size → b ≠ g → w'.cell? ⟨b, o, none⟩ = w.cell? ⟨b, o, none⟩ :=
  fun b _ hb hg => World.cell?_of_block (w := w) (h.block b hb hg)
theorem KeepsBut.has {g : Nat} {W : World} {b o : Nat} {v : Value} (hg : b ≠ g) (h : W.cell? ⟨b, o, none⟩ = some v) : ∀ w', KeepsBut g W w' → w'.cell? ⟨b, o, none⟩ = some v :=
  fun _ k => (k.cells b o (World.block_lt_of_cell? W _ h) hg).trans h
theorem KeepsBut.keeps {g : Nat} {w0 w w' : World} (h : KeepsBut g w w') (k : Keeps w0 w) (hg : w0.heap.size ≤ g) : Keeps w0 w' :=
  Below.trans k ⟨h.os, h.tape, h.output, h.size, fun i hi => h.block i (Nat.lt_of_lt_of_le hi k.size) (by omega)⟩
end Go.Proofs.YtpikopdfkhagmaaGreatDoor
namespace Go.Proofs.YtpikopdfkhagmaaGreatDoor
open Go.RowKit

theorem i64_and255 (n : Int) : bits .and .i64 n 255 = n % 256 := by
  have h : (BitVec.ofInt 64 255).toNat = 2 ^ 8 - 1 := by decide
  have key : (BitVec.ofInt 64 n &&& BitVec.ofInt 64 255).toNat = (n % ((2 ^ 64 : Nat) : Int)).toNat % 2 ^ 8 := by
    rw [BitVec.toNat_and, BitVec.toNat_ofInt, h, Nat.and_two_pow_sub_one_eq_mod]
  show IntKind.i64.wrap ((BitVec.ofInt 64 n &&& BitVec.ofInt 64 255).toNat : Nat) = n % 256
  rw [key, IntKind.wrap_i64]
  omega
theorem i64_and30 (n : Int) : bits .and .i64 n 1073741823 = n % 1073741824 := by
  have h : (BitVec.ofInt 64 1073741823).toNat = 2 ^ 30 - 1 := by decide
  have key : (BitVec.ofInt 64 n &&& BitVec.ofInt 64 1073741823).toNat = (n % ((2 ^ 64 : Nat) : Int)).toNat % 2 ^ 30 := by
    rw [BitVec.toNat_and, BitVec.toNat_ofInt, h, Nat.and_two_pow_sub_one_eq_mod]
  show IntKind.i64.wrap ((BitVec.ofInt 64 n &&& BitVec.ofInt 64 1073741823).toNat : Nat) = n % 1073741824
  rw [key, IntKind.wrap_i64]
  omega

/-- Bytes that lie below block g. -/
def Bytes (g : Nat) (w : World) (a : Option Addr) (n : Nat) : Prop :=
  n = 0 ∨ ∃ b off, a = some ⟨b, off, none⟩ ∧ b < g ∧ ∀ j, j < n → ∃ z : Int, 0 ≤ z ∧ z ≤ 255 ∧ w.cell? ⟨b, off + j, none⟩ = some (.int .u8 z)
theorem Bytes.but {g : Nat} {w w' : World} {a : Option Addr} {n : Nat} (h : Bytes g w a n) (k : KeepsBut g w w') : Bytes g w' a n := by
  rcases h with h | ⟨b, off, rfl, hg, h⟩
  · exact .inl h
  · exact .inr ⟨b, off, rfl, hg, fun j hj => by obtain ⟨z, h0, h1, hc⟩ := h j hj; exact ⟨z, h0, h1, KeepsBut.has (by omega) hc _ k⟩⟩

/-- The cursor lies in block g. -/
def Cur (w : World) (g : Nat) : Prop :=
  ∃ (a : Option Addr) (n cap i : Nat) (h : Int), w.cell? ⟨g, 0, none⟩ = some (.slice a n cap) ∧ w.cell? ⟨g, 1, none⟩ = some (.int .i64 i) ∧ w.cell? ⟨g, 2, none⟩ = some (.int .i64 h) ∧
    w.frozen? ⟨g, 1, none⟩ = false ∧ w.frozen? ⟨g, 2, none⟩ = false ∧ i ≤ n ∧ n ≤ 1048576 ∧ Bytes g w a n

theorem drewN_cell (w : World) (n : Nat) (a : Addr) : (w.drewN n).cell? a = w.cell? a := rfl
theorem drewN_frozen (w : World) (n : Nat) (a : Addr) : (w.drewN n).frozen? a = w.frozen? a := rfl
theorem Bytes.drewN {g : Nat} {w : World} {a : Option Addr} {n : Nat} (h : Bytes g w a n) (m : Nat) : Bytes g (w.drewN m) a n := h.but ((KeepsBut.refl g w).drewN m)
theorem Cur.drewN {w : World} {g : Nat} (h : Cur w g) (m : Nat) : Cur (w.drewN m) g := by
  obtain ⟨a, n, cap, i, h, c0, c1, c2, f1, f2, hi, hn, hb⟩ := h
  exact ⟨a, n, cap, i, h, c0, c1, c2, f1, f2, hi, hn, hb.drewN m⟩
theorem cur_new {w : World} {a : Option Addr} {n cap : Nat} {h : Int} (hn : n ≤ 1048576) (hb : Bytes w.heap.size w a n) (t : TypeId) : Cur (w.alloc (.cells #[.slice a n cap, .int .i64 0, .int .i64 h] t)) w.heap.size :=
  ⟨a, n, cap, 0, h, by simp [go_sem], by simp [go_sem], by simp [go_sem], by simp [go_sem], by simp [go_sem], Nat.zero_le _, hn, hb.but ((KeepsBut.refl _ w).alloc _)⟩
theorem cur_stay {w : World} {g : Nat} {a : Option Addr} {n cap i : Nat} {h : Int} (c0 : w.cell? ⟨g, 0, none⟩ = some (.slice a n cap)) (c1 : w.cell? ⟨g, 1, none⟩ = some (.int .i64 i)) (c2 : w.cell? ⟨g, 2, none⟩ = some (.int .i64 h))
    (f1 : w.frozen? ⟨g, 1, none⟩ = false) (f2 : w.frozen? ⟨g, 2, none⟩ = false) (hi : i ≤ n) (hn : n ≤ 1048576) (hb : Bytes g w a n) (h' : Int) (m : Nat) : Cur ((w.setCell ⟨g, 2, none⟩ (.int .i64 h')).drewN m) g :=
  ⟨a, n, cap, i, h', by rw [drewN_cell, setCell_other (by omega), c0], by rw [drewN_cell, setCell_other (by omega), c1], by rw [drewN_cell, setCell_same c2], by rw [drewN_frozen]; simp [f1], by rw [drewN_frozen]; simp [f2], hi, hn,
    hb.but (((KeepsBut.refl g w).setCell _ _).drewN _)⟩
theorem cur_go {w : World} {g : Nat} (hc : Cur w g) {a : Option Addr} {n cap i : Nat} (c0 : w.cell? ⟨g, 0, none⟩ = some (.slice a n cap)) (c1 : w.cell? ⟨g, 1, none⟩ = some (.int .i64 i)) (hi : i < n) : Cur (w.setCell ⟨g, 1, none⟩ (.int .i64 ((i : Int) + 1))) g := by
  obtain ⟨a', n', cap', i', h, d0, d1, d2, f1, f2, _, hn, hb⟩ := hc
  rw [c0] at d0
  rw [c1] at d1
  simp only [Option.some.injEq, Value.slice.injEq, Value.int.injEq, true_and] at d0 d1
  obtain ⟨rfl, rfl, rfl⟩ := d0
  exact ⟨a, n, cap, i + 1, h, by rw [setCell_other (by omega), c0], by rw [setCell_same c1]; rfl, by rw [setCell_other (by omega), d2], by simp [f1], by simp [f2], by omega, hn, hb.but ((KeepsBut.refl g w).setCell _ _)⟩

set_option maxHeartbeats 1000000 in
theorem l1Byte_any (g : Nat) (w : World) (hc : Cur w g) :
    Calls Tryz.prog 59 #[.pointer (some ⟨g, 0, none⟩)] w fun e w' => ∃ x : Int, e = .returned (.int .i64 x) ∧ 0 ≤ x ∧ x ≤ 255 ∧ Cur w' g ∧ KeepsBut g w w' := by
  obtain ⟨a, n, cap, i, h, c0, c1, c2, f1, f2, hi, hn, hb⟩ := hc
  by_cases hlt : i < n
  · rcases hb with hb | ⟨b, off, rfl, hg, hb⟩
    · omega
    obtain ⟨z, hz0, hz1, hcz⟩ := hb i hlt
    have hgn : g ≠ b := by omega
    have hgn' : b ≠ g := by omega
    have hlt' : (i : Int) < (n : Int) := by omega
    go_enter Tryz.func59, Tryz.ntmps59
    go_wp2
    generalize wrap64 (wrap64 (h * 6364136223846793005) + 1442695040888963407) = h'
    go_quiet (fail)
    go_wp2
    simp only [i64_and255]
    generalize bits BinOp.xor IntKind.i64 (h' / 8589934592) (h' / 35184372088832) = X
    have hx0 : 0 ≤ X % 256 := by omega
    have hx1 : X % 256 ≤ 255 := by omega
    generalize X % 256 = x at *
    go_quiet (fail)
    go_wp2
    go_quiet (fail)
    go_wp2
    simp only [i64_and255]
    go_ret
    refine ⟨(x + z) % 256, rfl, by omega, by omega, cur_go (cur_stay c0 c1 c2 f1 f2 hi hn (.inr ⟨b, off, rfl, hg, hb⟩) _ _) (a := some ⟨b, off, none⟩) (n := n) (cap := cap) ?_ ?_ hlt, (((KeepsBut.refl g w).setCell _ _).drewN _).setCell _ _⟩
    · rw [drewN_cell, setCell_other (by omega), c0]
    · rw [drewN_cell, setCell_other (by omega), c1]
  · go_enter Tryz.func59, Tryz.ntmps59
    go_wp2
    generalize wrap64 (wrap64 (h * 6364136223846793005) + 1442695040888963407) = h'
    go_quiet (fail)
    go_wp2
    simp only [i64_and255]
    generalize bits BinOp.xor IntKind.i64 (h' / 8589934592) (h' / 35184372088832) = X
    have hx0 : 0 ≤ X % 256 := by omega
    have hx1 : X % 256 ≤ 255 := by omega
    generalize X % 256 = x at *
    go_quiet (fail)
    go_wp2
    go_ret
    exact ⟨x, rfl, hx0, hx1, (cur_stay c0 c1 c2 f1 f2 hi hn hb _ _).drewN _, (((KeepsBut.refl g w).setCell _ _).drewN _).drewN _⟩

set_option maxHeartbeats 1000000 in
theorem l1Below_any (g : Nat) (n : Int) (w : World) (hc : Cur w g) (h1 : 1 ≤ n) (h2 : n ≤ 256) :
    Calls Tryz.prog 40 #[.pointer (some ⟨g, 0, none⟩), .int .i64 n] w fun e w' => ∃ x : Int, e = .returned (.int .i64 x) ∧ 0 ≤ x ∧ x < n ∧ Cur w' g ∧ KeepsBut g w w' := by
  go_enter Tryz.func40, Tryz.ntmps40
  go_wp2_with (go_at_call 59; refine (l1Byte_any g _ hc).mono ?_; rintro e w1 ⟨x, rfl, hx0, hx1, hc1, k1⟩)
  go_ret
  exact ⟨x % n, rfl, Int.emod_nonneg _ (by omega), Int.emod_lt_of_pos _ (by omega), hc1, k1⟩

theorem l1Once_any (g : Nat) (n : Int) (w : World) (hc : Cur w g) (h1 : 1 ≤ n) (h2 : n ≤ 256) :
    Calls Tryz.prog 21 #[.pointer (some ⟨g, 0, none⟩), .int .i64 n] w fun e w' => ∃ x : Bool, e = .returned (.bool x) ∧ Cur w' g ∧ KeepsBut g w w' := by
  go_enter Tryz.func21, Tryz.ntmps21
  go_wp2_with (go_at_call 40; refine (l1Below_any g _ _ hc ?_ ?_).mono ?_; omega; omega; rintro e w1 ⟨x, rfl, hx0, hx1, hc1, k1⟩)
  go_ret
  exact ⟨_, rfl, hc1, k1⟩

/-- One of the ints of a list, of which one property is known. -/
theorem l1PickInt_any (p : Int → Prop) (g b off cap : Nat) (zs : List Int) (w : World) (hc : Cur w g) (hg : b ≠ g) (h1 : 1 ≤ zs.length) (h2 : zs.length ≤ 256)
    (hz : ∀ j, j < zs.length → w.cell? ⟨b, off + j, none⟩ = some (.int .i64 (zs.getD j 0))) (hp : ∀ z ∈ zs, p z) :
    Calls Tryz.prog 22 #[.pointer (some ⟨g, 0, none⟩), .slice (some ⟨b, off, none⟩) zs.length cap] w fun e w' => ∃ x : Int, e = .returned (.int .i64 x) ∧ p x ∧ Cur w' g ∧ KeepsBut g w w' := by
  generalize hn : zs.length = n at *
  have Hn : Hid (zs.length = n) := hn
  clear hn
  go_enter Tryz.func22, Tryz.ntmps22
  go_wp2_with fail
  refine (l1Below_any g _ _ hc (by omega) (by omega)).mono ?_
  rintro e w1 ⟨x, rfl, hx0, hx1, hc1, k1⟩
  obtain ⟨j, rfl⟩ := Int.eq_ofNat_of_zero_le hx0
  have hj : j < n := by omega
  have r := KeepsBut.has hg (hz j hj) w1 k1
  generalize hv : zs.getD j 0 = v at r
  have Hv : Hid (zs.getD j 0 = v) := hv
  clear hv hz
  go_wp2
  go_ret
  refine ⟨v, rfl, ?_, hc1, k1⟩
  rw [← Hv.out]
  have hj' : j < zs.length := by rw [Hn.out]; exact hj
  have e : zs.getD j 0 = zs[j] := by simp [hj']
  rw [e]
  exact hp _ (List.getElem_mem hj')

theorem Cur.lt {w : World} {g : Nat} (h : Cur w g) : g < w.heap.size := by
  obtain ⟨_, _, _, _, _, c0, _⟩ := h
  exact World.block_lt_of_cell? w _ c0
theorem Cur.keeps {w w' : World} {g : Nat} (h : Cur w g) (k : Keeps w w') : Cur w' g := by
  have hl := h.lt
  obtain ⟨a, n, cap, i, h, c0, c1, c2, f1, f2, hi, hn, hb⟩ := h
  exact ⟨a, n, cap, i, h, Keeps.has c0 _ k, Keeps.has c1 _ k, Keeps.has c2 _ k, (k.frozens g 1 hl).trans f1, (k.frozens g 2 hl).trans f2, hi, hn, hb.but (.of k)⟩

theorem Cur.setNew {w : World} {g : Nat} (h : Cur w g) {b : Nat} (hb : g < b) (o : Nat) (v : Value) : Cur (w.setCell ⟨b, o, none⟩ v) g := by
  obtain ⟨a, n, cap, i, h, c0, c1, c2, f1, f2, hi, hn, hB⟩ := h
  refine ⟨a, n, cap, i, h, by rw [setCell_other (by omega), c0], by rw [setCell_other (by omega), c1], by rw [setCell_other (by omega), c2], by simp [f1], by simp [f2], hi, hn, ?_⟩
  rcases hB with hB | ⟨b', off, rfl, hg, hB⟩
  · exact .inl hB
  · exact .inr ⟨b', off, rfl, hg, fun j hj => by obtain ⟨z, h0, h1, hc⟩ := hB j hj; exact ⟨z, h0, h1, by rw [setCell_other (by omega), hc]⟩⟩

/-- One of the ints of a list that is written out. -/
theorem l1PickInt_new (p : Int → Prop) (g : Nat) (zs : List Int) (C : Array Value) (t : TypeId) (n cap B : Nat) (w : World) (hB : w.heap.size = B) (hc : Cur w g) (hn : zs.length = n) (h1 : 1 ≤ n) (h2 : n ≤ 256) (hC : C = (zs.map (Value.int .i64)).toArray) (hp : ∀ z ∈ zs, p z) :
    Calls Tryz.prog 22 #[.pointer (some ⟨g, 0, none⟩), .slice (some ⟨B, 0, none⟩) n cap] (w.alloc (.cells C t)) fun e w' => ∃ x : Int, e = .returned (.int .i64 x) ∧ p x ∧ Cur w' g ∧ KeepsBut g w w' := by
  have hl := hc.lt
  subst hC
  subst hn
  subst hB
  refine (l1PickInt_any p g w.heap.size 0 cap zs _ (hc.keeps ((Keeps.refl _).alloc _)) (by omega) h1 h2 ?_ hp).mono ?_
  · intro j hj
    simp [go_sem, hj]
  · rintro e w' ⟨x, rfl, hx, hc', k⟩
    exact ⟨x, rfl, hx, hc', ((KeepsBut.refl g w).alloc _).trans k⟩

set_option maxHeartbeats 1000000 in
theorem l1New_any (a : Option Addr) (n cap : Nat) (w : World) (hn : n ≤ 1048576) (hb : ∀ g, w.heap.size ≤ g → Bytes g w a n) :
    Calls Tryz.prog 17 #[.slice a n cap] w fun e w' => ∃ g, e = .returned (.pointer (some ⟨g, 0, none⟩)) ∧ w.heap.size ≤ g ∧ Cur w' g ∧ Keeps w w' := by
  have hb0 := hb w.heap.size (Nat.le_refl _)
  have HB : Hid (Bytes w.heap.size w a n) := hb0
  clear hb
  go_enter Tryz.func17, Tryz.ntmps17
  go_wp2
  go_loop [3, 4] (fun s i => ∃ k : Nat, k ≤ n ∧ i = .int .i64 k ∧ ∃ h : Int, s = .int .i64 h ∧ 0 ≤ h ∧ h ≤ 1073741823) (fun _ i => n - (intOf i).toNat)
  case atStart => exact ⟨0, Nat.zero_le _, rfl, _, rfl, by omega, by omega⟩
  case round =>
    obtain ⟨k, hk, rfl, h, rfl, h0, h1⟩ := hrel
    by_cases hlt : k < n
    · rcases hb0 with hb0 | ⟨b, off, rfl, hg, hz⟩
      · omega
      obtain ⟨z, hz0, hz1, hcz⟩ := hz k hlt
      have hlt' : (k : Int) < (n : Int) := by omega
      by_cases h4 : k < 4000
      · have h4' : (k : Int) < 4000 := by omega
        go_wp2
        simp only [i64_and30]
        go_round
        case rel => exact ⟨k + 1, by omega, by go_num, _, rfl, by omega, by omega⟩
        case measure => simp only [intOf]; omega
      · have hd : decide ((k : Int) < 4000) = false := by simp; omega
        go_wp2
        go_ret
        exact ⟨w.heap.size, rfl, Nat.le_refl _, cur_new hn HB.out _, (Keeps.refl _).alloc _⟩
    · have hd : decide ((k : Int) < (n : Int)) = false := by simp; omega
      go_wp2
      go_ret
      exact ⟨w.heap.size, rfl, Nat.le_refl _, cur_new hn HB.out _, (Keeps.refl _).alloc _⟩

theorem big_any (a : Option Addr) (n cap : Nat) (w : World) (_hn : n ≤ maxLen) :
    Calls Tryz.prog 5 #[.slice a n cap] w fun e w' => e = .returned (.bool (decide (1048576 < (n : Int)))) ∧ w' = w := by
  unfold maxLen at _hn
  go_enter Tryz.func5, Tryz.ntmps5
  go_wp2
  go_ret
  exact ⟨rfl, rfl⟩
end Go.Proofs.YtpikopdfkhagmaaGreatDoor
namespace Go.Proofs.YtpikopdfkhagmaaGreatDoor
open Go.RowKit

set_option maxRecDepth 100000 in
set_option maxHeartbeats 1000000 in
theorem l1Long_any (a : Option Addr) (n cap : Nat) (few most : Int) (w : World) (hn : n ≤ 1048576) (h0 : 0 ≤ few) (h1 : few ≤ most) (h2 : most ≤ 255) :
    Calls Tryz.prog 58 #[.slice a n cap, .int .i64 few, .int .i64 most] w fun e w' => ∃ z : Int, e = .returned (.int .i64 z) ∧ 0 ≤ z ∧ z ≤ most ∧ w' = w := by
  have hq : (n : Int).tdiv 4 = (n : Int) / 4 := Int.tdiv_eq_ediv_of_nonneg (by omega)
  obtain ⟨d, Hd⟩ : ∃ d, Hid ((n : Int).tdiv 4 = d) := ⟨_, rfl⟩
  have hd0 : 0 ≤ d := by rw [← Hd.out, hq]; omega
  have hd1 : d ≤ 1048576 := by rw [← Hd.out, hq]; omega
  have hd : (n : Int).tdiv 4 = d := Hd.out
  have hw : IntKind.i64.wrap (few + d) = few + d := Go.IntWalk.i64_in _ (by omega)
  clear hq Hd
  by_cases hm : most < few + d
  · go_enter Tryz.func58, Tryz.ntmps58
    go_wp2
    go_ret
    exact ⟨most, rfl, by omega, by omega, rfl⟩
  · go_enter Tryz.func58, Tryz.ntmps58
    go_wp2
    go_ret
    exact ⟨few + d, rfl, by omega, by omega, rfl⟩
end Go.Proofs.YtpikopdfkhagmaaGreatDoor
