/-
  What the laws of chapter 7 draw: the contracts of the model's DrawLockAsk, DrawChainOf, DrawOwnsAny, DrawWaitAt.
  What FnFreed draws: the contract of the model's DrawLockFree.
  What the laws of chapter 8 draw.
  What FnBest draws: the contract of the model's DrawBestOf.
-/
import Derived.Test.YthpdlbcdbncnhaaGreatDoorGDraw2
import Derived.Test.YthpdlbcdbncnhaaGreatDoorGLock4
import Derived.Test.YthpdlbcdbncnhaaGreatDoorGPick1
namespace Go.Proofs.YthpdlbcdbncnhaaGreatDoor
open Go.RowKit
attribute [local go_sem] Keeps.refl Keeps.alloc Keeps.drew Keeps.drewN KeepsBut.refl KeepsBut.drew KeepsBut.alloc KeepsBut.drewN

/-- Drawn locks, once the cursor is done with. -/
structure Drawn (w w' : World) (v : Value) (ls : List Lk) : Prop where
  mine : ∃ vs, Mine w' w.heap.size w'.heap.size v vs ls
  pos : 1 ≤ ls.length
  le : ls.length ≤ 6
  size : sizeN ls ≤ 17
  keep : Keeps w w'
theorem DK.drawn {w w1 w2 : World} {g : Nat} {v : Value} {ls : List Lk} (h : DK w1 w2 g v ls) (k : Keeps w w1) (hg : w.heap.size ≤ g) (h1 : 1 ≤ ls.length) (h2 : ls.length ≤ 6) (h3 : sizeN ls ≤ 17) : Drawn w w2 v ls := by
  obtain ⟨vs, M⟩ := h.mine
  exact ⟨⟨vs, M.widen k.size (Nat.le_refl _)⟩, h1, h2, h3, h.kb.keeps k hg⟩
/-- They are handed on. -/
theorem Drawn.args {w w' : World} {v : Value} {ls : List Lk} (h : Drawn w w' v ls) : ∃ a cap, v = .slice a ls.length cap ∧ Lks true w' a ls ∧ Plain w' a ls.length cap := by
  obtain ⟨vs, M⟩ := h.mine
  obtain ⟨a, cap, e, L, P, -⟩ := M.args
  exact ⟨a, cap, e, L, P⟩

end Go.Proofs.YthpdlbcdbncnhaaGreatDoor
namespace Go.Proofs.YthpdlbcdbncnhaaGreatDoor
open Go.RowKit
attribute [local go_sem] Keeps.refl Keeps.alloc Keeps.drew Keeps.drewN KeepsBut.refl KeepsBut.drew KeepsBut.alloc KeepsBut.drewN

theorem results_tmp4 {fn : Func} {t u v x : Tmp} (h : fn.results = #[.tmp t, .tmp u, .tmp v, .tmp x]) (tmps : Array Value) (P : Program) (w : World) :
    (results fn tmps).run P w = .ok (.tuple #[tmps.getD t undef, tmps.getD u undef, tmps.getD v undef, tmps.getD x undef]) w := by
  simp [results, h]

end Go.Proofs.YthpdlbcdbncnhaaGreatDoor
namespace Go.Proofs.YthpdlbcdbncnhaaGreatDoor
open Go.RowKit

attribute [local go_sem] Keeps.refl Keeps.alloc Keeps.drew Keeps.drewN

theorem DK.rebase {w w1 wr : World} {g : Nat} {v : Value} {ls : List Lk} (h : DK w1 wr g v ls) (k : KeepsBut g w w1) : DK w wr g v ls := by
  obtain ⟨vs, M⟩ := h.mine
  exact ⟨⟨vs, M.widen k.size (Nat.le_refl _)⟩, h.cur, k.trans h.kb⟩
/-- A drawn task's number. -/
theorem DL.no {w wr : World} {g b cp : Nat} {ts : List Tsk} (h : DL w wr g (.slice (some ⟨b, 0, none⟩) ts.length cp) ts) {j : Nat} {t : Tsk} (ht : ts[j]? = some t) : wr.cell? ⟨b, j * 14, none⟩ = some (.int .i64 t.no) := by
  have := Own.cellAt h.own tc_size (i := j) (k := 0) ht (by omega)
  simpa using this

/-- Drawn tasks and locks, once the cursor is done with. -/
structure Both (w w' : World) (b cp : Nat) (ts : List Tsk) (v : Value) (ls : List Lk) : Prop where
  two : ∃ a m cap, v = .slice a m cap ∧ Two w' (some ⟨b, 0, none⟩) ts.length cp ts a m cap ls
  room : ts.length ≤ cp
  len : ts.length ≤ 13
  keep : Keeps w w'
theorem DL.on {w wr : World} {g b cp : Nat} {ts : List Tsk} (h : DL w wr g (.slice (some ⟨b, 0, none⟩) ts.length cp) ts) : OnT wr (some ⟨b, 0, none⟩) ts.length cp ts ∧ ts.length ≤ cp := by
  obtain ⟨a, cap, e, l, h1, h2⟩ := h.own.slice tc_size
  simp only [Value.slice.injEq] at e
  obtain ⟨rfl, -, rfl⟩ := e
  exact ⟨⟨rfl, Nat.le_trans h1 h2, l⟩, h1⟩
theorem both_of {w w1 w2 : World} {g b cp : Nat} {ts : List Tsk} {v : Value} {ls : List Lk} (T : DL w1 w2 g (.slice (some ⟨b, 0, none⟩) ts.length cp) ts) (D : DK w1 w2 g v ls) (k : Keeps w w1) (hg : w.heap.size ≤ g) (h1 : ts.length ≤ 13) (h3 : sizeN ls ≤ 17) : Both w w2 b cp ts v ls := by
  obtain ⟨vs, M⟩ := D.mine
  obtain ⟨a, cap, e, o⟩ := On.of M (by omega)
  exact ⟨⟨a, _, cap, e, T.on.1, o⟩, T.on.2, h1, D.kb.keeps k hg⟩

end Go.Proofs.YthpdlbcdbncnhaaGreatDoor
namespace Go.Proofs.YthpdlbcdbncnhaaGreatDoor
open Go.RowKit
attribute [local go_sem] Keeps.refl Keeps.alloc Keeps.drew Keeps.drewN

/-- A row of numbers that grows, beside the cursor. -/
structure DN (w wr : World) (g : Nat) (v : Value) (xs : List Int) : Prop where
  own : OwnN wr w.heap.size v xs
  cur : Cur wr g
  kb : KeepsBut g w wr
theorem DN.but {w wr wr' : World} {g : Nat} {v : Value} {xs : List Int} (h : DN w wr g v xs) (hg : g < w.heap.size) (k : KeepsBut g wr wr') (hc : Cur wr' g) : DN w wr' g v xs :=
  ⟨h.own.butG k hg, hc, h.kb.trans k⟩
theorem DN.alloc {w wr : World} {g : Nat} {v : Value} {xs : List Int} (h : DN w wr g v xs) (o : Obj) : DN w (wr.alloc o) g v xs := ⟨h.own.alloc o, h.cur.keeps ((Keeps.refl _).alloc _), h.kb.alloc _⟩
theorem DN.grown {w wr wr' : World} {g : Nat} {v v' : Value} {xs ys : List Int} (h : DN w wr g v xs) (hg : g < w.heap.size) (o : OwnN wr' w.heap.size v' ys) (gr : wr.grownBy wr' v.ownBlock) : DN w wr' g v' ys :=
  ⟨o, h.cur.grown gr (fun k hk => Nat.lt_of_lt_of_le hg (h.own.ltb k hk).1), h.kb.grown gr (fun k hk => (h.own.ltb k hk).1)⟩
theorem DN.slice {w wr : World} {g : Nat} {v : Value} {xs : List Int} (h : DN w wr g v xs) : ∃ a cap, v = .slice a xs.length cap ∧ Ns wr a xs ∧ xs.length ≤ cap := by
  obtain ⟨a, cap, e, N, l, -⟩ := OwnN.ns h.own
  exact ⟨a, cap, e, N, l⟩

end Go.Proofs.YthpdlbcdbncnhaaGreatDoor
