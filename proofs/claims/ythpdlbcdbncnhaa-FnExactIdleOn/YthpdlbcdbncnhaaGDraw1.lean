/-
  A drawn task: the contracts of the model's draws.
  A drawn task that may be wrong in one field: the contract of the model's l3Draw.
  Drawn tasks with deadlines: the contracts of the model's draws.
-/
import Derived.Test.YthpdlbcdbncnhaaGTask4
import Derived.Test.YthpdlbcdbncnhaaGBase1
import Derived.Deep.DeepCutAuto
import Derived.Deep.CutBlock
namespace Go.Proofs.Ythpdlbcdbncnhaa
open Go.RowKit

theorem Blk.but {g : Nat} {w w' : World} {b : Nat} {C : Array Value} (h : Blk w b C) (k : KeepsBut g w w') (hg : b ≠ g) : Blk w' b C :=
  ⟨Nat.lt_of_lt_of_le h.lt k.size, fun i => (k.cells b i h.lt hg).trans (h.cells i), fun i => (World.frozen?_of_block (w := w) (k.block b h.lt hg)).trans (h.frozens i)⟩
theorem Cur.putT {w : World} {g b : Nat} (h : Cur w g) (hb : g < b) (t : Tsk) : Cur (putT w b t) g := (((((((((((((h.setNew hb _ _).setNew hb _ _).setNew hb _ _).setNew hb _ _).setNew hb _ _).setNew hb _ _).setNew hb _ _).setNew hb _ _).setNew hb _ _).setNew hb _ _).setNew hb _ _).setNew hb _ _).setNew hb _ _).setNew hb _ _
theorem KeepsBut.putT {g b : Nat} {a w : World} (h : KeepsBut g a w) (hp : a.heap.size ≤ b) (t : Tsk) : KeepsBut g a (Go.Proofs.Ythpdlbcdbncnhaa.putT w b t) := (((((((((((((h.setNew hp _).setNew hp _).setNew hp _).setNew hp _).setNew hp _).setNew hp _).setNew hp _).setNew hp _).setNew hp _).setNew hp _).setNew hp _).setNew hp _).setNew hp _).setNew hp _

/-- While one is drawn: the cursor in block g, the answer's cell in r, the task in s. -/
structure DR (w W : World) (g r s : Nat) (t : Tsk) : Prop where
  cur : Cur W g
  kb : KeepsBut g w W
  res : Blk W r (tc Tsk.zero)
  box : Blk W s (tc t)
  gr : g < r
  rs : r < s
  wr : w.heap.size ≤ r
theorem DR.but {w W W' : World} {g r s : Nat} {t : Tsk} (h : DR w W g r s t) (k : KeepsBut g W W') (hc : Cur W' g) : DR w W' g r s t :=
  ⟨hc, h.kb.trans k, h.res.but k (by have := h.gr; omega), h.box.but k (by have := h.gr; have := h.rs; omega), h.gr, h.rs, h.wr⟩
theorem DR.keeps {w W W' : World} {g r s : Nat} {t : Tsk} (h : DR w W g r s t) (k : Keeps W W') : DR w W' g r s t := h.but (.of k) (h.cur.keeps k)
theorem DR.rules {w W : World} {g r s : Nat} {t : Tsk} (h : DR w W g r s t) : (∀ k, W.cell? ⟨s, k, none⟩ = (tc t)[k]?) ∧ (∀ k, W.cell? ⟨r, k, none⟩ = (tc Tsk.zero)[k]?) ∧ (∀ k, W.frozen? ⟨s, k, none⟩ = false) ∧ ∀ k, W.frozen? ⟨r, k, none⟩ = false :=
  ⟨h.box.cells, h.res.cells, h.box.frozens, h.res.frozens⟩
theorem DR.put {w W : World} {g r s : Nat} {t : Tsk} (h : DR w W g r s t) (u : Tsk) : DR w (putT W s u) g r s u :=
  ⟨h.cur.putT (by have := h.gr; have := h.rs; omega) u, h.kb.putT (by have := h.wr; have := h.rs; omega) u, h.res.farT (by have := h.rs; omega) u, h.box.putT u, h.gr, h.rs, h.wr⟩
theorem DR.cell {w W : World} {g r s : Nat} {t u : Tsk} (h : DR w W g r s t) (k : Nat) (hk : k < 14) (v : Value) (hu : tc u = (tc t).setIfInBounds k v) : DR w (W.setCell ⟨s, k, none⟩ v) g r s u :=
  ⟨h.cur.setNew (by have := h.gr; have := h.rs; omega) _ _, h.kb.setNew (by have := h.wr; have := h.rs; show _ ≤ s; omega) _, h.res.far (by have := h.rs; omega) _, by rw [hu]; exact h.box.set k hk v, h.gr, h.rs, h.wr⟩
theorem DR.st {w W : World} {g r s : Nat} {t : Tsk} (h : DR w W g r s t) (x : Int) : DR w (W.setCell ⟨s, 3, none⟩ (.int .i64 x)) g r s { t with st := x } := h.cell 3 (by decide) _ (by simp)
theorem DR.left {w W : World} {g r s : Nat} {t : Tsk} (h : DR w W g r s t) (x : Int) : DR w (W.setCell ⟨s, 7, none⟩ (.int .i64 x)) g r s { t with left := x } := h.cell 7 (by decide) _ (by simp)
theorem DR.idle {w W : World} {g r s : Nat} {t : Tsk} (h : DR w W g r s t) (x : Bool) : DR w (W.setCell ⟨s, 4, none⟩ (.bool x)) g r s { t with idle := x } := h.cell 4 (by decide) _ (by simp)
theorem DR.done {w W : World} {g r s : Nat} {t : Tsk} (h : DR w W g r s t) : Blk (putT W r t) r (tc t) ∧ Cur (putT W r t) g ∧ KeepsBut g w (putT W r t) :=
  ⟨h.res.putT t, h.cur.putT h.gr t, h.kb.putT h.wr t⟩
theorem DR.new {w W : World} {g : Nat} (hc : Cur W g) (hk : KeepsBut g w W) {r : Nat} (hr : Blk W r (tc Tsk.zero)) (hg : g < r) (hw : w.heap.size ≤ r) : DR w (W.alloc (.cells (tc Tsk.zero) 77)) g r W.heap.size Tsk.zero :=
  ⟨hc.keeps ((Keeps.refl _).alloc _), hk.alloc _, hr.alloc _, Blk.new _ _ _, hg, hr.lt, hw⟩

end Go.Proofs.Ythpdlbcdbncnhaa
namespace Go.Proofs.Ythpdlbcdbncnhaa
open Go.RowKit

theorem DR.no {w W : World} {g r s : Nat} {t : Tsk} (h : DR w W g r s t) (x : Int) : DR w (W.setCell ⟨s, 0, none⟩ (.int .i64 x)) g r s { t with no := x } := h.cell 0 (by decide) _ (by simp)
theorem DR.cpu {w W : World} {g r s : Nat} {t : Tsk} (h : DR w W g r s t) (x : Int) : DR w (W.setCell ⟨s, 2, none⟩ (.int .i64 x)) g r s { t with cpu := x } := h.cell 2 (by decide) _ (by simp)
theorem DR.cls {w W : World} {g r s : Nat} {t : Tsk} (h : DR w W g r s t) (x : Int) : DR w (W.setCell ⟨s, 1, none⟩ (.int .i64 x)) g r s { t with cls := x } := h.cell 1 (by decide) _ (by simp)
theorem DR.due {w W : World} {g r s : Nat} {t : Tsk} (h : DR w W g r s t) (x : Int) : DR w (W.setCell ⟨s, 8, none⟩ (.int .i64 x)) g r s { t with due := x } := h.cell 8 (by decide) _ (by simp)
theorem DR.v {w W : World} {g r s : Nat} {t : Tsk} (h : DR w W g r s t) (x : Int) : DR w (W.setCell ⟨s, 13, none⟩ (.int .i64 x)) g r s { t with v := x } := h.cell 13 (by decide) _ (by simp)
theorem DR.prio {w W : World} {g r s : Nat} {t : Tsk} (h : DR w W g r s t) (x : Int) : DR w (W.setCell ⟨s, 9, none⟩ (.int .i64 x)) g r s { t with prio := x } := h.cell 9 (by decide) _ (by simp)

end Go.Proofs.Ythpdlbcdbncnhaa
namespace Go.Proofs.Ythpdlbcdbncnhaa
open Go.RowKit

/-- Nothing but block g has turned, and block b holds C. -/
structure HasB (g : Nat) (w : World) (b : Nat) (C : Array Value) (w' : World) : Prop where
  kb : KeepsBut g w w'
  box : Blk w' b C
theorem HasB.but {g : Nat} {w : World} {b : Nat} {C : Array Value} {w1 w2 : World} (h : HasB g w b C w1) (k : KeepsBut g w1 w2) (hb : b ≠ g) : HasB g w b C w2 := ⟨h.kb.trans k, h.box.but k hb⟩
theorem KeepsBut.putC {g : Nat} {a : World} {b : Nat} (hp : a.heap.size ≤ b) : ∀ (L : List Value) {w : World} (k : Nat), KeepsBut g a w → KeepsBut g a (Go.Proofs.Ythpdlbcdbncnhaa.putC w b k L)
  | [], _, _, h => h
  | v :: r, _, k, h => KeepsBut.putC hp r (k + 1) (h.setNew (p := ⟨b, k, none⟩) hp v)
theorem HasB.put {g : Nat} {w : World} {b : Nat} {C : Array Value} {w1 : World} (h : HasB g w b C w1) {r : Nat} (hr : w.heap.size ≤ r) (hb : r ≠ b) (k : Nat) (L : List Value) : HasB g w b C (putC w1 r k L) := ⟨KeepsBut.putC hr L k h.kb, Blk.farC hb L k h.box⟩

end Go.Proofs.Ythpdlbcdbncnhaa
