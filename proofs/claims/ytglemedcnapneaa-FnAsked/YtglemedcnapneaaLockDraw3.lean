/-
  What the laws of chapter 7 draw: the contracts of the model's DrawLockAsk, DrawChainOf, DrawOwnsAny, DrawWaitAt.
-/
import Derived.Test.YtglemedcnapneaaLockDraw2
namespace Go.Proofs.Ytglemedcnapneaa
open Go.RowKit
attribute [local go_sem] Keeps.refl Keeps.alloc Keeps.drew Keeps.drewN KeepsBut.refl KeepsBut.drew KeepsBut.alloc KeepsBut.drewN

/-- Drawn locks, once the cursor is done with. -/
structure Drawn (w w' : World) (v : Value) (ls : List Lk) : Prop where
  mine : ∃ vs, Mine w' w.heap.size w'.heap.size v vs ls
  pos : 1 ≤ ls.length
  le : ls.length ≤ 6
  size : sizeN ls ≤ 17
  keep : Keeps w w'
theorem DK.drawn {w w1 w2 : World} {g : Nat} {v : Value} {ls : List Lk} (h : DK w1 w2 g v ls) (k : Keeps w w1) (hg : w.heap.size ≤ g) (h1 : 1 ≤ ls.length) (h2 : ls.length ≤ 6) (h3 : sizeN ls ≤ 17) : Drawn w w2 v ls := by
  obtain ⟨vs, M⟩ := h.mine
  exact ⟨⟨vs, M.widen k.size (Nat.le_refl _)⟩, h1, h2, h3, h.kb.keeps k hg⟩
/-- They are handed on. -/
theorem Drawn.args {w w' : World} {v : Value} {ls : List Lk} (h : Drawn w w' v ls) : ∃ a cap, v = .slice a ls.length cap ∧ Lks true w' a ls ∧ Plain w' a ls.length cap := by
  obtain ⟨vs, M⟩ := h.mine
  obtain ⟨a, cap, e, L, P, -⟩ := M.args
  exact ⟨a, cap, e, L, P⟩

set_option maxRecDepth 100000 in
set_option maxHeartbeats 2000000 in
theorem drawChainOf_any (a : Option Addr) (n cap : Nat) (w : World) (hn : n ≤ 1048576) (hb : ∀ g, w.heap.size ≤ g → Bytes g w a n) :
    Calls Try.prog 39 #[.slice a n cap] w fun e w' => ∃ (v : Value) (ls : List Lk) (no : Int), e = .returned (.tuple #[v, .int .i64 no]) ∧ Drawn w w' v ls := by
  go_enter Try.func39, Try.ntmps39
  go_wp2_with fail
  refine (l1New_any a n cap _ hn hb).mono ?_
  rintro e w1 ⟨g, rfl, hg, hc1, k1⟩
  have hg1 := hc1.lt
  go_wp2_with fail
  refine (l7Draw_any g _ hc1).mono ?_
  rintro e w2 ⟨v, ls, rfl, D, h1, h2, h3⟩
  go_wp2_with fail
  refine (l1Below_any g _ _ D.cur (by omega) (by omega)).mono ?_
  rintro e w3 ⟨x, rfl, hx0, hx1, hc3, k3⟩
  have D3 : Hid (Drawn w w3 v ls) := (D.but hg1 k3 hc3).drawn k1 hg h1 h2 h3
  clear D k3 hc3
  go_wp2
  go_ret2
  exact ⟨v, ls, x, rfl, D3.out⟩
set_option maxRecDepth 100000 in
set_option maxHeartbeats 2000000 in
theorem drawOwnsAny_any (a : Option Addr) (n cap : Nat) (w : World) (hn : n ≤ 1048576) (hb : ∀ g, w.heap.size ≤ g → Bytes g w a n) :
    Calls Try.prog 40 #[.slice a n cap] w fun e w' => ∃ (v : Value) (ls : List Lk) (no : Int), e = .returned (.tuple #[v, .int .i64 no]) ∧ Drawn w w' v ls := by
  go_enter Try.func40, Try.ntmps40
  go_wp2_with fail
  refine (l1New_any a n cap _ hn hb).mono ?_
  rintro e w1 ⟨g, rfl, hg, hc1, k1⟩
  have hg1 := hc1.lt
  go_wp2_with fail
  refine (l7Draw_any g _ hc1).mono ?_
  rintro e w2 ⟨v, ls, rfl, D, h1, h2, h3⟩
  go_wp2_with fail
  refine (l1Below_any g _ _ D.cur (by omega) (by omega)).mono ?_
  rintro e w3 ⟨x, rfl, hx0, hx1, hc3, k3⟩
  have D3 : Hid (Drawn w w3 v ls) := (D.but hg1 k3 hc3).drawn k1 hg h1 h2 h3
  clear D k3 hc3
  go_wp2
  go_ret2
  exact ⟨v, ls, x, rfl, D3.out⟩
set_option maxRecDepth 100000 in
set_option maxHeartbeats 2000000 in
theorem drawWaitAt_any (a : Option Addr) (n cap : Nat) (w : World) (hn : n ≤ 1048576) (hb : ∀ g, w.heap.size ≤ g → Bytes g w a n) :
    Calls Try.prog 41 #[.slice a n cap] w fun e w' => ∃ (v : Value) (ls : List Lk) (no : Int), e = .returned (.tuple #[v, .int .i64 no]) ∧ Drawn w w' v ls := by
  go_enter Try.func41, Try.ntmps41
  go_wp2_with fail
  refine (l1New_any a n cap _ hn hb).mono ?_
  rintro e w1 ⟨g, rfl, hg, hc1, k1⟩
  have hg1 := hc1.lt
  go_wp2_with fail
  refine (l7Draw_any g _ hc1).mono ?_
  rintro e w2 ⟨v, ls, rfl, D, h1, h2, h3⟩
  go_wp2_with fail
  refine (l1Below_any g _ _ D.cur (by omega) (by omega)).mono ?_
  rintro e w3 ⟨x, rfl, hx0, hx1, hc3, k3⟩
  have D3 : Hid (Drawn w w3 v ls) := (D.but hg1 k3 hc3).drawn k1 hg h1 h2 h3
  clear D k3 hc3
  go_wp2
  go_ret2
  exact ⟨v, ls, x, rfl, D3.out⟩
set_option maxRecDepth 100000 in
set_option maxHeartbeats 4000000 in
theorem drawLockAsk_any (a : Option Addr) (n cap : Nat) (w : World) (hn : n ≤ 1048576) (hb : ∀ g, w.heap.size ≤ g → Bytes g w a n) :
    Calls Try.prog 34 #[.slice a n cap] w fun e w' => ∃ (v : Value) (ls : List Lk) (i no : Int), e = .returned (.tuple #[v, .int .i64 i, .int .i64 no]) ∧ Drawn w w' v ls := by
  go_enter Try.func34, Try.ntmps34
  go_wp2_with fail
  refine (l1New_any a n cap _ hn hb).mono ?_
  rintro e w1 ⟨g, rfl, hg, hc1, k1⟩
  have hg1 := hc1.lt
  go_wp2_with fail
  refine (l7Draw_any g _ hc1).mono ?_
  rintro e w2 ⟨v, ls, rfl, D, h1, h2, h3⟩
  obtain ⟨vs, M⟩ := D.mine
  obtain ⟨a2, cap2, rfl, -, -, -⟩ := M.args
  clear M vs
  obtain ⟨m, Hm⟩ : ∃ m : Nat, Hid (ls.length = m) := ⟨_, rfl⟩
  rw [Hm.out] at h1 h2 D ⊢
  go_wp2_with fail
  refine (l1Below_any g _ _ D.cur (by omega) (by omega)).mono ?_
  rintro e w3 ⟨x, rfl, hx0, hx1, hc3, k3⟩
  have D3 := D.but hg1 k3 hc3
  clear D k3 hc3
  go_wp2_with fail
  refine (l1Below_any g _ _ D3.cur (by omega) (by omega)).mono ?_
  rintro e w4 ⟨y, rfl, hy0, hy1, hc4, k4⟩
  have D4 := D3.but hg1 k4 hc4
  clear D3 k4 hc4
  go_wp2_with fail
  refine (l1PickInt_new (fun _ => True) g [0, 1, 2, 3, 4, 5, 6, 7, 1000, 1001] _ _ 10 10 _ _ rfl D4.cur rfl (by decide) (by decide) rfl (by simp)).mono ?_
  rintro e w5 ⟨z, rfl, -, hc5, k5⟩
  have D5 : Hid (Drawn w w5 (.slice a2 m cap2) ls) := (D4.but hg1 k5 hc5).drawn k1 hg (by rw [Hm.out]; exact h1) (by rw [Hm.out]; exact h2) h3
  clear D4 k5 hc5
  go_wp2
  go_ret3
  exact ⟨_, ls, _, z, rfl, D5.out⟩
end Go.Proofs.Ytglemedcnapneaa
