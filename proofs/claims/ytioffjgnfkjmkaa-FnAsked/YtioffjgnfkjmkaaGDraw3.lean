/-
  What the laws of chapter 7 draw: the contracts of the model's DrawLockAsk, DrawChainOf, DrawOwnsAny, DrawWaitAt.
  What FnFreed draws: the contract of the model's DrawLockFree.
  What the laws of chapter 8 draw.
  What FnBest draws: the contract of the model's DrawBestOf.
-/
import Derived.Test.YtioffjgnfkjmkaaGDraw2
import Derived.Test.YtioffjgnfkjmkaaGLock4
import Derived.Test.YtioffjgnfkjmkaaGPick1
namespace Go.Proofs.Ytioffjgnfkjmkaa
open Go.RowKit
attribute [local go_sem] Keeps.refl Keeps.alloc Keeps.drew Keeps.drewN KeepsBut.refl KeepsBut.drew KeepsBut.alloc KeepsBut.drewN

/-- Drawn locks, once the cursor is done with. -/
structure Drawn (w w' : World) (v : Value) (ls : List Lk) : Prop where
  mine : ∃ vs, Mine w' w.heap.size w'.heap.size v vs ls
  pos : 1 ≤ ls.length
  le : ls.length ≤ 6
  size : sizeN ls ≤ 17
  keep : Keeps w w'
theorem DK.drawn {w w1 w2 : World} {g : Nat} {v : Value} {ls : List Lk} (h : DK w1 w2 g v ls) (k : Keeps w w1) (hg : w.heap.size ≤ g) (h1 : 1 ≤ ls.length) (h2 : ls.length ≤ 6) (h3 : sizeN ls ≤ 17) : Drawn w w2 v ls := by
  obtain ⟨vs, M⟩ := h.mine
  exact ⟨⟨vs, M.widen k.size (Nat.le_refl _)⟩, h1, h2, h3, h.kb.keeps k hg⟩
/-- They are handed on. -/
theorem Drawn.args {w w' : World} {v : Value} {ls : List Lk} (h : Drawn w w' v ls) : ∃ a cap, v = .slice a ls.length cap ∧ Lks true w' a ls ∧ Plain w' a ls.length cap := by
  obtain ⟨vs, M⟩ := h.mine
  obtain ⟨a, cap, e, L, P, -⟩ := M.args
  exact ⟨a, cap, e, L, P⟩

set_option maxRecDepth 100000 in
set_option maxHeartbeats 4000000 in
theorem drawLockAsk_any (a : Option Addr) (n cap : Nat) (w : World) (hn : n ≤ 1048576) (hb : ∀ g, w.heap.size ≤ g → Bytes g w a n) :
    Calls Try.prog 33 #[.slice a n cap] w fun e w' => ∃ (v : Value) (ls : List Lk) (i no : Int), e = .returned (.tuple #[v, .int .i64 i, .int .i64 no]) ∧ Drawn w w' v ls := by
  go_enter Try.func33, Try.ntmps33
  go_wp2_with fail
  refine (l1New_any a n cap _ hn hb).mono ?_
  rintro e w1 ⟨g, rfl, hg, hc1, k1⟩
  have hg1 := hc1.lt
  go_wp2_with fail
  refine (l7Draw_any g _ hc1).mono ?_
  rintro e w2 ⟨v, ls, rfl, D, h1, h2, h3⟩
  obtain ⟨vs, M⟩ := D.mine
  obtain ⟨a2, cap2, rfl, -, -, -⟩ := M.args
  clear M vs
  obtain ⟨m, Hm⟩ : ∃ m : Nat, Hid (ls.length = m) := ⟨_, rfl⟩
  rw [Hm.out] at h1 h2 D ⊢
  go_wp2_with fail
  refine (l1Below_any g _ _ D.cur (by omega) (by omega)).mono ?_
  rintro e w3 ⟨x, rfl, hx0, hx1, hc3, k3⟩
  have D3 := D.but hg1 k3 hc3
  clear D k3 hc3
  go_wp2_with fail
  refine (l1Below_any g _ _ D3.cur (by omega) (by omega)).mono ?_
  rintro e w4 ⟨y, rfl, hy0, hy1, hc4, k4⟩
  have D4 := D3.but hg1 k4 hc4
  clear D3 k4 hc4
  go_wp2_with fail
  refine (l1PickInt_new (fun _ => True) g [0, 1, 2, 3, 4, 5, 6, 7, 1000, 1001] _ _ 10 10 _ _ rfl D4.cur rfl (by decide) (by decide) rfl (by simp)).mono ?_
  rintro e w5 ⟨z, rfl, -, hc5, k5⟩
  have D5 : Hid (Drawn w w5 (.slice a2 m cap2) ls) := (D4.but hg1 k5 hc5).drawn k1 hg (by rw [Hm.out]; exact h1) (by rw [Hm.out]; exact h2) h3
  clear D4 k5 hc5
  go_wp2
  go_ret3
  exact ⟨_, ls, _, z, rfl, D5.out⟩
end Go.Proofs.Ytioffjgnfkjmkaa
namespace Go.Proofs.Ytioffjgnfkjmkaa
open Go.RowKit
attribute [local go_sem] Keeps.refl Keeps.alloc Keeps.drew Keeps.drewN KeepsBut.refl KeepsBut.drew KeepsBut.alloc KeepsBut.drewN

theorem results_tmp4 {fn : Func} {t u v x : Tmp} (h : fn.results = #[.tmp t, .tmp u, .tmp v, .tmp x]) (tmps : Array Value) (P : Program) (w : World) :
    (results fn tmps).run P w = .ok (.tuple #[tmps.getD t undef, tmps.getD u undef, tmps.getD v undef, tmps.getD x undef]) w := by
  simp [results, h]

set_option maxRecDepth 100000 in
set_option maxHeartbeats 8000000 in
theorem drawLockFree_any (a : Option Addr) (n cap : Nat) (w : World) (hn : n ≤ 1048576) (hb : ∀ g, w.heap.size ≤ g → Bytes g w a n) :
    Calls Try.prog 41 #[.slice a n cap] w fun e w' => ∃ (v : Value) (ls : List Lk) (i no nx : Int), e = .returned (.tuple #[v, .int .i64 i, .int .i64 no, .int .i64 nx]) ∧ Drawn w w' v ls := by
  go_enter Try.func41, Try.ntmps41
  go_wp2_with fail
  refine (l1New_any a n cap _ hn hb).mono ?_
  rintro e w1 ⟨g, rfl, hg, hc1, k1⟩
  have hg1 := hc1.lt
  clear hb
  go_wp2_with fail
  refine (l7Draw_any g _ hc1).mono ?_
  rintro e w2 ⟨v, ls, rfl, D, h1, h2, h3⟩
  obtain ⟨vs, M⟩ := D.mine
  obtain ⟨a2, cap2, rfl, -, -, -⟩ := M.args
  clear M vs hc1
  obtain ⟨m, Hm⟩ : ∃ m : Nat, Hid (ls.length = m) := ⟨_, rfl⟩
  rw [Hm.out] at h1 h2 D ⊢
  have H3 : Hid (sizeN ls ≤ 17) := h3
  clear h3
  go_wp2_with fail
  refine (l1Below_any g _ _ D.cur (by omega) (by omega)).mono ?_
  rintro e w3 ⟨jj, rfl, hj0, hj1, hc3, k3⟩
  have D3 := D.but hg1 k3 hc3
  clear D k3 hc3
  obtain ⟨j, rfl⟩ := Int.eq_ofNat_of_zero_le hj0
  have hj : j < m := by omega
  obtain ⟨l, hl1⟩ := some_in (xs := ls) (k := j) (by rw [Hm.out]; exact hj)
  obtain ⟨b, cap3, vs, y, e, A0⟩ := D3.at hl1
  rw [Hm.out] at e A0
  simp only [Value.slice.injEq] at e
  obtain ⟨rfl, -, rfl⟩ := e
  have hbg : b ≠ g := by have := A0.lo; omega
  obtain ⟨yo, ya, yn, yc⟩ := y
  have r0 : ∀ w', KeepsBut g w3 w' → w'.cell? ⟨b, j * 2, none⟩ = some (.int .i64 yo) := KeepsBut.has hbg A0.c0
  have r1 : ∀ w', KeepsBut g w3 w' → w'.cell? ⟨b, j * 2 + 1, none⟩ = some (.slice ya yn yc) := KeepsBut.has hbg A0.c1
  have row : Hid (OwnN w3 w1.heap.size (.slice ya yn yc) l.waits) := A0.row
  have hw1 : l.waits.length ≤ 17 := by have := sumW_mem hl1; have := H3.out; unfold sizeN at this; omega
  have Eyn : Hid (yn = l.waits.length) := by
    show _ = _
    obtain ⟨_, _, e, _⟩ := OwnN.ns A0.row
    simp only [Value.slice.injEq] at e
    exact e.2.1
  have HD : Hid (DK w1 w3 g (.slice (some ⟨b, 0, none⟩) m cap2) ls) := D3
  clear A0 D3 hl1
  go_upto_if 30 with fail
  go_cut [10] (fun c wx => ∃ z : Int, c = .int .i64 z ∧ Hid (DK w1 wx g (.slice (some ⟨b, 0, none⟩) m cap2) ls))
  case first =>
    by_cases hp : 0 < yn
    · have hp' : (0 : Int) < (yn : Int) := by omega
      have R := row.out
      have eyn := Eyn.out
      obtain ⟨b2, c2, e⟩ := Own.blk R (by omega)
      simp only [Value.slice.injEq] at e
      obtain ⟨rfl, -, rfl⟩ := e
      rw [← eyn] at hw1
      have hb2 : b2 ≠ g := by have := (Own.ltb R b2 rfl).1; omega
      have rr : Hid (∀ i : Nat, i < yn → ∃ z : Int, w3.cell? ⟨b2, i, none⟩ = some (.int .i64 z)) := by
        intro i hi
        obtain ⟨z, hz⟩ := some_in (xs := l.waits) (k := i) (by omega)
        rw [eyn] at R
        have := Own.cellAt R ic_size (i := i) (k := 0) hz (by omega)
        exact ⟨z, by simpa using this⟩
      clear R eyn
      go_wp2_with fail
      refine wp_region_held_drew (S := (fun w' => KeepsBut g w3 w')) (by kernel_rfl) ?_ (fun hHeld => ?_)
      · exact (KeepsBut.refl g w3).drew
      refine takeH 0 (v := ?_) (by simp only [opsAt]; rfl) (by kernel_rfl) (by exact fun _ _ _ h => h) (by rfl) (by assumption) ?_ ?_
      rotate_left
      · (intro w _; go_simp; try (with_reducible rfl))
      try simp only [putAtH]
      refine takeH 1 (v := ?_) (by simp only [opsAt]; rfl) (by kernel_rfl) (by exact fun _ _ _ h => h) (by rfl) (by assumption) ?_ ?_
      rotate_left
      · (intro w _; go_simp; try (with_reducible rfl))
      try simp only [putAtH]
      refine takeH 2 (v := ?_) (by simp only [opsAt]; rfl) (by kernel_rfl) (by exact fun _ _ _ h => h) (by rfl) (by assumption) ?_ ?_
      rotate_left
      · (intro w _; go_simp; try (with_reducible rfl))
      try simp only [putAtH]
      refine takeH 3 (v := ?_) (by simp only [opsAt]; rfl) (by kernel_rfl) (by exact fun _ _ _ h => h) (by rfl) (by assumption) ?_ ?_
      rotate_left
      · (intro w _; go_simp; try (with_reducible rfl))
      try simp only [putAtH]
      refine takeH 4 (v := ?_) (by simp only [opsAt]; rfl) (by kernel_rfl) (by exact fun _ _ _ h => h) (by rfl) (by assumption) ?_ ?_
      rotate_left
      · (intro w _; go_simp; try (with_reducible rfl))
      try simp only [putAtH]
      refine takeH 5 (v := ?_) (by simp only [opsAt]; rfl) (by kernel_rfl) (by exact fun _ _ _ h => h) (by rfl) (by assumption) ?_ ?_
      rotate_left
      · (intro w _; go_simp; try (with_reducible rfl))
      try simp only [putAtH]
      refine takeH 6 (v := ?_) (by simp only [opsAt]; rfl) (by kernel_rfl) (by exact fun _ _ _ h => h) (by rfl) (by assumption) ?_ ?_
      rotate_left
      · (intro w _; go_simp; try (with_reducible rfl))
      try simp only [putAtH]
      refine takeH 7 (v := ?_) (by simp only [opsAt]; rfl) (by kernel_rfl) (by exact fun _ _ _ h => h) (by rfl) (by assumption) ?_ ?_
      rotate_left
      · (intro w _; go_simp; try (with_reducible rfl))
      try simp only [putAtH]
      refine takeH 8 (v := ?_) (by simp only [opsAt]; rfl) (by kernel_rfl) (by exact fun _ _ _ h => h) (by rfl) (by assumption) ?_ ?_
      rotate_left
      · (intro w _; go_simp; try (with_reducible rfl))
      try simp only [putAtH]
      refine takeH 9 (v := ?_) (by simp only [opsAt]; rfl) (by kernel_rfl) (by exact fun _ _ _ h => h) (by rfl) (by assumption) ?_ ?_
      rotate_left
      · (intro w _; go_simp; try (with_reducible rfl))
      try simp only [putAtH]
      refine takeH 10 (v := ?_) (by simp only [opsAt]; rfl) (by kernel_rfl) (by exact fun _ _ _ h => h) (by rfl) (by assumption) ?_ ?_
      rotate_left
      · (intro w _; go_simp; try (with_reducible rfl))
      try simp only [putAtH]
      refine takeH 11 (v := ?_) (by simp only [opsAt]; rfl) (by kernel_rfl) (by exact fun _ _ _ h => h) (by rfl) (by assumption) ?_ ?_
      rotate_left
      · (intro w _; go_simp; try (with_reducible rfl))
      try simp only [putAtH]
      refine callH 12 (by kernel_rfl) (by simp only [opsAt]; rfl) (fun K hK => ?_)
      go_simp
      first
        | (go_at_call 81; refine (l1Below_any g _ _ (HD.out.cur.keeps (by first | exact Keeps.refl _ | exact (Keeps.refl _).drew)) (by omega) (by omega)).mono ?_; rintro e w4 ⟨xx, rfl, hx0, hx1, hc4, k4⟩; obtain ⟨x, rfl⟩ := Int.eq_ofNat_of_zero_le hx0; have hx : x < yn := (by omega); obtain ⟨z, hz⟩ := rr.out x hx; have r3 : ∀ w', KeepsBut g w3 w' → w'.cell? ⟨b2, x, none⟩ = some (.int .i64 z) := KeepsBut.has hb2 hz)
      try go_wp2_with fail
      refine hK.out _ _ ?_ (fun hHeld => ?_)
      · exact KeepsBut.trans (by assumption) (by assumption)
      clear hK K
      try simp only [putAtH]
      refine takeH 13 (v := ?_) (by simp only [opsAt]; rfl) (by kernel_rfl) (by exact fun _ _ _ h => h) (by rfl) (by assumption) ?_ ?_
      rotate_left
      · (intro w _; go_simp; try (with_reducible rfl))
      try simp only [putAtH]
      refine takeH 14 (v := ?_) (by simp only [opsAt]; rfl) (by kernel_rfl) (by exact fun _ _ _ h => h) (by rfl) (by assumption) ?_ ?_
      rotate_left
      · (intro w _; go_simp; try (with_reducible rfl))
      try simp only [putAtH]
      refine takeH 15 (v := ?_) (by simp only [opsAt]; rfl) (by kernel_rfl) (by exact fun _ _ _ h => h) (by rfl) (by assumption) ?_ ?_
      rotate_left
      · (intro w _; go_simp; try (with_reducible rfl))
      try simp only [putAtH]
      refine wpAnyH_done (by kernel_rfl) ?_ _
      have K4 : KeepsBut g w3 w4 := by assumption
      have D4 : Hid (DK w1 w4 g (.slice (some ⟨b, 0, none⟩) m cap2) ls) := HD.out.but hg1 K4 hc4
      go_wp2_with fail
      go_meet
      exact ⟨z, rfl, D4⟩
    · have hp' : decide ((0 : Int) < (yn : Int)) = false := by simp; omega
      have hp2 : decide (0 < yn) = false := by simp; omega
      go_wp2_with fail
      go_meet
      exact ⟨0, rfl, HD⟩
  case rest =>
  obtain ⟨z, rfl, D5⟩ := hcut
  generalize wc = w5 at *
  clear r0 r1 row HD
  go_wp2_with fail
  refine (l1Below_any g _ _ D5.out.cur (by omega) (by omega)).mono ?_
  rintro e w6 ⟨c, rfl, hx0, hx1, hc6, k6⟩
  have D6 : Hid (DK w1 w6 g (.slice (some ⟨b, 0, none⟩) m cap2) ls) := D5.out.but hg1 k6 hc6
  clear D5 hc6 k6
  go_upto_block 0 with fail
  go_cut [8, 9, 10] (fun i no nx wx => ∃ x y z : Int, i = .int .i64 x ∧ no = .int .i64 y ∧ nx = .int .i64 z ∧ Hid (DK w1 wx g (.slice (some ⟨b, 0, none⟩) m cap2) ls))
  case first =>
    obtain rfl | rfl | rfl | hc8 : c = 0 ∨ c = 1 ∨ c = 2 ∨ 3 ≤ c := by omega
    · go_wp2_with fail
      refine (l1Below_any g _ _ D6.out.cur (by omega) (by omega)).mono ?_
      rintro e w7 ⟨u, rfl, hu0, hu1, hc7, k7⟩
      have D7 : Hid (DK w1 w7 g (.slice (some ⟨b, 0, none⟩) m cap2) ls) := D6.out.but hg1 k7 hc7
      clear D6 hc7 k7
      go_wp2_with fail
      go_meet
      exact ⟨_, _, _, rfl, rfl, rfl, D7⟩
    · go_wp2_with fail
      refine (l1Below_any g _ _ D6.out.cur (by omega) (by omega)).mono ?_
      rintro e w7 ⟨u, rfl, hu0, hu1, hc7, k7⟩
      have D7 : Hid (DK w1 w7 g (.slice (some ⟨b, 0, none⟩) m cap2) ls) := D6.out.but hg1 k7 hc7
      clear D6 hc7 k7
      go_wp2_with fail
      go_meet
      exact ⟨_, _, _, rfl, rfl, rfl, D7⟩
    · go_wp2_with fail
      refine (l1Below_any g _ _ D6.out.cur (by omega) (by omega)).mono ?_
      rintro e w7 ⟨u, rfl, hu0, hu1, hc7, k7⟩
      have D7 : Hid (DK w1 w7 g (.slice (some ⟨b, 0, none⟩) m cap2) ls) := D6.out.but hg1 k7 hc7
      clear D6 hc7 k7
      go_wp2_with fail
      go_meet
      exact ⟨_, _, _, rfl, rfl, rfl, D7⟩
    · have n0 : (c == 0) = false := by simp; omega
      have n1 : (c == 1) = false := by simp; omega
      have n2 : (c == 2) = false := by simp; omega
      go_wp2_with fail
      go_meet
      exact ⟨_, _, _, rfl, rfl, rfl, D6⟩
  case rest =>
  obtain ⟨x, y, z', rfl, rfl, rfl, D8⟩ := hcut
  generalize wc = w8 at *
  have D9 : Hid (Drawn w w8 (.slice (some ⟨b, 0, none⟩) m cap2) ls) := D8.out.drawn k1 hg (by rw [Hm.out]; exact h1) (by rw [Hm.out]; exact h2) H3.out
  clear D8 D6
  go_wp2
  refine bodyPost_ret (results_tmp4 rfl _ _ _) rfl ?_
  exact ⟨_, ls, x, y, z', rfl, D9.out⟩
end Go.Proofs.Ytioffjgnfkjmkaa
namespace Go.Proofs.Ytioffjgnfkjmkaa
open Go.RowKit

attribute [local go_sem] Keeps.refl Keeps.alloc Keeps.drew Keeps.drewN

theorem DK.rebase {w w1 wr : World} {g : Nat} {v : Value} {ls : List Lk} (h : DK w1 wr g v ls) (k : KeepsBut g w w1) : DK w wr g v ls := by
  obtain ⟨vs, M⟩ := h.mine
  exact ⟨⟨vs, M.widen k.size (Nat.le_refl _)⟩, h.cur, k.trans h.kb⟩
/-- A drawn task's number. -/
theorem DL.no {w wr : World} {g b cp : Nat} {ts : List Tsk} (h : DL w wr g (.slice (some ⟨b, 0, none⟩) ts.length cp) ts) {j : Nat} {t : Tsk} (ht : ts[j]? = some t) : wr.cell? ⟨b, j * 14, none⟩ = some (.int .i64 t.no) := by
  have := Own.cellAt h.own tc_size (i := j) (k := 0) ht (by omega)
  simpa using this

/-- Drawn tasks and locks, once the cursor is done with. -/
structure Both (w w' : World) (b cp : Nat) (ts : List Tsk) (v : Value) (ls : List Lk) : Prop where
  two : ∃ a m cap, v = .slice a m cap ∧ Two w' (some ⟨b, 0, none⟩) ts.length cp ts a m cap ls
  room : ts.length ≤ cp
  len : ts.length ≤ 13
  keep : Keeps w w'
theorem DL.on {w wr : World} {g b cp : Nat} {ts : List Tsk} (h : DL w wr g (.slice (some ⟨b, 0, none⟩) ts.length cp) ts) : OnT wr (some ⟨b, 0, none⟩) ts.length cp ts ∧ ts.length ≤ cp := by
  obtain ⟨a, cap, e, l, h1, h2⟩ := h.own.slice tc_size
  simp only [Value.slice.injEq] at e
  obtain ⟨rfl, -, rfl⟩ := e
  exact ⟨⟨rfl, Nat.le_trans h1 h2, l⟩, h1⟩
theorem both_of {w w1 w2 : World} {g b cp : Nat} {ts : List Tsk} {v : Value} {ls : List Lk} (T : DL w1 w2 g (.slice (some ⟨b, 0, none⟩) ts.length cp) ts) (D : DK w1 w2 g v ls) (k : Keeps w w1) (hg : w.heap.size ≤ g) (h1 : ts.length ≤ 13) (h3 : sizeN ls ≤ 17) : Both w w2 b cp ts v ls := by
  obtain ⟨vs, M⟩ := D.mine
  obtain ⟨a, cap, e, o⟩ := On.of M (by omega)
  exact ⟨⟨a, _, cap, e, T.on.1, o⟩, T.on.2, h1, D.kb.keeps k hg⟩

end Go.Proofs.Ytioffjgnfkjmkaa
namespace Go.Proofs.Ytioffjgnfkjmkaa
open Go.RowKit
attribute [local go_sem] Keeps.refl Keeps.alloc Keeps.drew Keeps.drewN

/-- A row of numbers that grows, beside the cursor. -/
structure DN (w wr : World) (g : Nat) (v : Value) (xs : List Int) : Prop where
  own : OwnN wr w.heap.size v xs
  cur : Cur wr g
  kb : KeepsBut g w wr
theorem DN.but {w wr wr' : World} {g : Nat} {v : Value} {xs : List Int} (h : DN w wr g v xs) (hg : g < w.heap.size) (k : KeepsBut g wr wr') (hc : Cur wr' g) : DN w wr' g v xs :=
  ⟨h.own.butG k hg, hc, h.kb.trans k⟩
theorem DN.alloc {w wr : World} {g : Nat} {v : Value} {xs : List Int} (h : DN w wr g v xs) (o : Obj) : DN w (wr.alloc o) g v xs := ⟨h.own.alloc o, h.cur.keeps ((Keeps.refl _).alloc _), h.kb.alloc _⟩
theorem DN.grown {w wr wr' : World} {g : Nat} {v v' : Value} {xs ys : List Int} (h : DN w wr g v xs) (hg : g < w.heap.size) (o : OwnN wr' w.heap.size v' ys) (gr : wr.grownBy wr' v.ownBlock) : DN w wr' g v' ys :=
  ⟨o, h.cur.grown gr (fun k hk => Nat.lt_of_lt_of_le hg (h.own.ltb k hk).1), h.kb.grown gr (fun k hk => (h.own.ltb k hk).1)⟩
theorem DN.slice {w wr : World} {g : Nat} {v : Value} {xs : List Int} (h : DN w wr g v xs) : ∃ a cap, v = .slice a xs.length cap ∧ Ns wr a xs ∧ xs.length ≤ cap := by
  obtain ⟨a, cap, e, N, l, -⟩ := OwnN.ns h.own
  exact ⟨a, cap, e, N, l⟩

end Go.Proofs.Ytioffjgnfkjmkaa
