/-
  Drawn tasks: the contracts of the model's l3DrawList and DrawTaskPut.
  Drawn locks: the contract of the model's l7DrawRight.
  Drawn locks that may be wrong in one place: the contract of the model's l7Draw.
-/
import Derived.Test.YthpdlbcdbncnhaaGDraw1
import Derived.Test.YthpdlbcdbncnhaaGBase1
import Derived.Test.YthpdlbcdbncnhaaGTask3
import Derived.Test.YthpdlbcdbncnhaaGLock4
import Derived.Test.YthpdlbcdbncnhaaGPure1
import Derived.Deep.DeepCutAuto
import Derived.Deep.CutBlock
import Derived.Deep.RegionHeld3
namespace Go.Proofs.Ythpdlbcdbncnhaa
open Go.RowKit

theorem Blk.but' {g : Nat} {w w' : World} {b : Nat} {C : Array Value} (h : Blk w b C) (k : KeepsBut g w w') (hg : b ≠ g) : Blk w' b C := h.but k hg
theorem Own.setFar {α : Type} {e : TypeId} {sz : Nat} {c : α → Array Value} {w : World} {base : Nat} {v : Value} {xs : List α} (h : Own e sz c w base v xs) {b : Nat} (hb : b < base) (o : Nat) (u : Value) : Own e sz c (w.setCell ⟨b, o, none⟩ u) base v xs :=
  h.butG ((KeepsBut.refl b w).setCell o u) hb
theorem Own.putFar {α : Type} {e : TypeId} {sz : Nat} {c : α → Array Value} {base : Nat} {v : Value} {xs : List α} {b : Nat} (hb : b < base) : ∀ (L : List Value) {w : World} (k : Nat), Own e sz c w base v xs → Own e sz c (putC w b k L) base v xs
  | [], _, _, h => h
  | u :: r, _, k, h => Own.putFar hb r (k + 1) (h.setFar hb k u)
theorem ins_pos (t : Tsk) (ts : List Tsk) : 0 < (ins t ts).length := by rw [ins_length]; omega

/-- A drawn list: a row of its own, with an address. -/
structure DL (w wr : World) (g : Nat) (v : Value) (xs : List Tsk) : Prop where
  own : OwnT wr w.heap.size v xs
  adr : ∃ b cp, v = .slice (some ⟨b, 0, none⟩) xs.length cp
  cur : Cur wr g
  kb : KeepsBut g w wr
theorem DL.but {w wr wr' : World} {g : Nat} {v : Value} {xs : List Tsk} (h : DL w wr g v xs) (hg : g < w.heap.size) (k : KeepsBut g wr wr') (hc : Cur wr' g) : DL w wr' g v xs :=
  ⟨h.own.butG k hg, h.adr, hc, h.kb.trans k⟩
theorem DL.keeps {w wr wr' : World} {g : Nat} {v : Value} {xs : List Tsk} (h : DL w wr g v xs) (hg : g < w.heap.size) (k : Keeps wr wr') : DL w wr' g v xs := h.but hg (.of k) (h.cur.keeps k)

end Go.Proofs.Ythpdlbcdbncnhaa
namespace Go.Proofs.Ythpdlbcdbncnhaa
open Go.RowKit
attribute [local go_sem] Keeps.refl Keeps.alloc Keeps.drew Keeps.drewN

/-- Drawn locks, beside the cursor. -/
structure DK (w wr : World) (g : Nat) (v : Value) (ls : List Lk) : Prop where
  mine : ∃ vs, Mine wr w.heap.size wr.heap.size v vs ls
  cur : Cur wr g
  kb : KeepsBut g w wr
theorem DK.but {w wr wr' : World} {g : Nat} {v : Value} {ls : List Lk} (h : DK w wr g v ls) (hg : g < w.heap.size) (k : KeepsBut g wr wr') (hc : Cur wr' g) : DK w wr' g v ls := by
  obtain ⟨vs, M⟩ := h.mine
  exact ⟨⟨vs, (M.same fun b h1 _ h3 => k.block b h3 (by omega)).widen (Nat.le_refl _) k.size⟩, hc, h.kb.trans k⟩
theorem DK.keeps {w wr wr' : World} {g : Nat} {v : Value} {ls : List Lk} (h : DK w wr g v ls) (hg : g < w.heap.size) (k : Keeps wr wr') : DK w wr' g v ls := h.but hg (.of k) (h.cur.keeps k)
theorem sizeN_zero (n : Nat) : sizeN (List.replicate n (⟨0, []⟩ : Lk)) = n := by
  have : sumW (List.replicate n (⟨0, []⟩ : Lk)) = 0 := by
    induction n with
    | zero => rfl
    | succ n ih => rw [List.replicate_succ]; simp only [sumW, ih]; rfl
  unfold sizeN
  rw [this]
  simp
set_option maxRecDepth 100000 in
/-- What make lays. -/
theorem run_make_locks (n : Nat) (hn : n ≤ 1048576) (z : Int) (hz : z = (n : Int)) : ∀ w : World, (Instr.makeSlice 53 (.int .i64 z) (.int .i64 z)).run Try.prog w = .ok (.slice (some ⟨w.heap.size, 0, none⟩) n n) (w.alloc (.cells (madeCells #[.int .i64 0, .slice none 0 0] (n * 2)) 79)) := by
  subst hz
  have hmk := run_make_zero (P := Try.prog) 53 79 (.agg #[.int .i64 0, .slice none 0 0]) 2 32 Try.underlying53 (by kernel_rfl) n (by omega) (by omega)
  simp only [Value.cells] at hmk
  exact hmk
theorem DK.made {w wr : World} {g : Nat} (hc : Cur wr g) (k : KeepsBut g w wr) (n : Nat) (hn : n ≤ 1048576) : DK w (wr.alloc (.cells (madeCells #[.int .i64 0, .slice none 0 0] (n * 2)) 79)) g (.slice (some ⟨wr.heap.size, 0, none⟩) n n) (List.replicate n ⟨0, []⟩) :=
  ⟨⟨_, (Mine.zero wr n (by unfold maxLen; omega)).widen k.size (by simp)⟩, hc.keeps ((Keeps.refl _).alloc _), k.alloc _⟩

end Go.Proofs.Ythpdlbcdbncnhaa
namespace Go.Proofs.Ythpdlbcdbncnhaa
open Go.RowKit
attribute [local go_sem] Keeps.refl Keeps.alloc Keeps.drew Keeps.drewN KeepsBut.refl KeepsBut.drew KeepsBut.alloc KeepsBut.drewN

/-- What is known of one of some drawn locks. -/
structure DKat (w wr : World) (g : Nat) (b n cap : Nat) (vs : List Lv) (ls : List Lk) (j : Nat) (x : Lv) (l : Lk) : Prop where
  mine : Mine wr w.heap.size wr.heap.size (.slice (some ⟨b, 0, none⟩) n cap) vs ls
  vlen : vs.length = n
  hx : vs[j]? = some x
  hl : ls[j]? = some l
  own : Own 79 2 lvc wr w.heap.size (.slice (some ⟨b, 0, none⟩) n cap) vs
  lo : w.heap.size ≤ b
  hi : b < wr.heap.size
  c0 : wr.cell? ⟨b, j * 2, none⟩ = some (.int .i64 x.o)
  c1 : wr.cell? ⟨b, j * 2 + 1, none⟩ = some x.row
  fz : ∀ o, wr.frozen? ⟨b, o, none⟩ = false
  xo : x.o = l.owner
  row : OwnN wr w.heap.size x.row l.waits
  far : ∀ q, x.row.ownBlock = some q → q < wr.heap.size ∧ q ≠ b
theorem DK.at {w wr : World} {g : Nat} {v : Value} {ls : List Lk} (h : DK w wr g v ls) {j : Nat} {l : Lk} (hl : ls[j]? = some l) : ∃ b cap vs x, v = .slice (some ⟨b, 0, none⟩) ls.length cap ∧ DKat w wr g b ls.length cap vs ls j x l := by
  obtain ⟨vs, M⟩ := h.mine
  have hj := lt_of_some hl
  have hv : vs.length = ls.length := M.len
  obtain ⟨b, cap, e⟩ := M.own.blk (by omega)
  rw [hv] at e
  subst e
  obtain ⟨x, hx⟩ := some_in (xs := vs) (k := j) (by omega)
  have O0 : Own 79 2 lvc wr w.heap.size (.slice (some ⟨b, 0, none⟩) vs.length cap) vs := by rw [hv]; exact M.own
  have X1 := M.rows j x l hx hl
  exact ⟨b, cap, vs, x, rfl, M, hv, hx, hl, M.own, (O0.ltb b rfl).1, (O0.ltb b rfl).2, O0.cellAt lvc_size (k := 0) hx (by omega), O0.cellAt lvc_size (k := 1) hx (by omega), fun o => O0.frozenAt o, X1.1, X1.2,
    fun q hq => ⟨(X1.2.ltb q hq).2, fun e => (M.inn j x q hx hq).2 (by rw [e]; rfl)⟩⟩
theorem DKat.but {w wr wr' : World} {g b n cap : Nat} {vs : List Lv} {ls : List Lk} {j : Nat} {x : Lv} {l : Lk} (h : DKat w wr g b n cap vs ls j x l) (hg : g < w.heap.size) (k : KeepsBut g wr wr') : DKat w wr' g b n cap vs ls j x l := by
  have hb : wr'.heap[b]? = wr.heap[b]? := k.block b h.hi (by have := h.lo; omega)
  exact ⟨(h.mine.same fun q h1 _ h3 => k.block q h3 (by omega)).widen (Nat.le_refl _) k.size, h.vlen, h.hx, h.hl, h.own.same fun q hq => k.block q (h.own.ltb q hq).2 (by have := (h.own.ltb q hq).1; omega), h.lo, Nat.lt_of_lt_of_le h.hi k.size,
    (World.cell?_of_block (w := wr) hb).trans h.c0, (World.cell?_of_block (w := wr) hb).trans h.c1, fun o => (World.frozen?_of_block (w := wr) hb).trans (h.fz o), h.xo, h.row.same fun q hq => k.block q (h.row.ltb q hq).2 (by have := (h.row.ltb q hq).1; omega),
    fun q hq => ⟨Nat.lt_of_lt_of_le (h.far q hq).1 k.size, (h.far q hq).2⟩⟩
theorem DKat.setOwner {w wr : World} {g b n cap : Nat} {vs : List Lv} {ls : List Lk} {j : Nat} {x : Lv} {l : Lk} (h : DKat w wr g b n cap vs ls j x l) (hc : Cur wr g) (kb : KeepsBut g w wr) (hg : g < w.heap.size) (c : Int) :
    DK w (wr.setCell ⟨b, j * 2, none⟩ (.int .i64 c)) g (.slice (some ⟨b, 0, none⟩) n cap) (ls.set j { l with owner := c }) := by
  have m := h.mine
  rw [← h.vlen] at m
  have := m.setOwner h.hx h.hl c
  rw [List.length_set, h.vlen] at this
  refine ⟨⟨_, this.widen (Nat.le_refl _) (by simp)⟩, hc.setNew (Nat.lt_of_lt_of_le hg h.lo) _ _, kb.setNew h.lo _⟩
/-- A row of one lock has grown, and is laid there. -/
theorem DKat.waits {w w5 w6 : World} {g b n cap : Nat} {vs : List Lv} {ls : List Lk} {j : Nat} {x : Lv} {l : Lk} (h : DKat w w5 g b n cap vs ls j x l) (hc : Cur w5 g) (kb : KeepsBut g w w5) (hg : g < w.heap.size) {ws : List Int} {a : Option Addr} {m c : Nat}
    (O6 : OwnN w6 w.heap.size (.slice a m c) ws) (g6 : w5.grownBy w6 x.row.ownBlock) (f6 : ∀ q, (Value.slice a m c).ownBlock = some q → x.row.ownBlock = some q ∨ w5.heap.size ≤ q) :
    DK w (w6.setCell ⟨b, j * 2 + 1, none⟩ (.slice a m c)) g (.slice (some ⟨b, 0, none⟩) n cap) (ls.set j { l with waits := ws }) := by
  have key : ∀ q, q < w5.heap.size → x.row.ownBlock ≠ some q → w6.heap[q]? = w5.heap[q]? := fun q hq hne => g6.block q hq (fun e => hne e.symm)
  have h36 : w6.heap[b]? = w5.heap[b]? := key b h.hi (fun e => (h.far b e).2 rfl)
  have ow6 : Own 79 2 lvc w6 w.heap.size (.slice (some ⟨b, 0, none⟩) n cap) vs := h.own.same fun q hq => by
    have : q = b := by simp [Value.ownBlock] at hq; exact hq.symm
    rw [this]; exact h36
  have hrow : ∀ q, x.row.ownBlock = some q → w.heap.size ≤ q := fun q hq => (h.row.ltb q hq).1
  refine ⟨⟨vs.set j ⟨x.o, a, m, c⟩, ?_⟩, ?_, ?_⟩
  · refine h.mine.swap (x := x) (y := ⟨x.o, a, m, c⟩) h.hx (ow6.setAt lvc_size (i := j) (j := 1) (x := x) (y := ⟨x.o, a, m, c⟩) (u := .slice a m c) h.hx (by omega) rfl) (fun q h1 h2 h3 => ?_) h.xo ?_ (by have := g6.size; simpa using this) (fun q hq => ?_)
    · have : q ≠ b := fun e => h1 (by rw [e]; rfl)
      rw [heap_setCell this]
      exact key q h3 h2
    · refine Own.same O6 fun q hq => heap_setCell ?_
      rcases f6 q hq with h1 | h1
      · exact (h.far q h1).2
      · have := h.hi; omega
    · rcases f6 q hq with h1 | h1
      · exact .inr h1
      · have := O6.ltb q hq
        exact .inl ⟨by omega, by simp; omega⟩
  · exact (hc.grown g6 (fun k hk => Nat.lt_of_lt_of_le hg (hrow k hk))).setNew (Nat.lt_of_lt_of_le hg h.lo) _ _
  · exact (kb.grown g6 (fun k hk => hrow k hk)).setNew h.lo _
theorem DKat.still {w w5 w6 : World} {g b n cap : Nat} {vs : List Lv} {ls : List Lk} {j : Nat} {x : Lv} {l : Lk} (h : DKat w w5 g b n cap vs ls j x l) (g6 : w5.grownBy w6 x.row.ownBlock) : w6.cell? ⟨b, j * 2 + 1, none⟩ = some x.row ∧ ∀ o, w6.frozen? ⟨b, o, none⟩ = false := by
  have h36 : w6.heap[b]? = w5.heap[b]? := g6.block b h.hi (fun e => (h.far b e.symm).2 rfl)
  exact ⟨(World.cell?_of_block (w := w5) h36).trans h.c1, fun o => (World.frozen?_of_block (w := w5) h36).trans (h.fz o)⟩

end Go.Proofs.Ythpdlbcdbncnhaa
