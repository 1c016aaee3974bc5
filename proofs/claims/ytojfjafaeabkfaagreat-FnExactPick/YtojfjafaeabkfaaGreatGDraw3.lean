/-
  What the laws of chapter 7 draw: the contracts of the model's DrawLockAsk, DrawChainOf, DrawOwnsAny, DrawWaitAt.
  What the laws of chapter 8 draw.
  What FnFreed draws: the contract of the model's DrawLockFree.
  What FnBest draws: the contract of the model's DrawBestOf.
-/
import Derived.Test.YtojfjafaeabkfaaGreatGDraw2
import Derived.Test.YtojfjafaeabkfaaGreatGLock4
import Derived.Test.YtojfjafaeabkfaaGreatGPick1
namespace Go.Proofs.YtojfjafaeabkfaaGreat
open Go.RowKit
attribute [local go_sem] Keeps.refl Keeps.alloc Keeps.drew Keeps.drewN KeepsBut.refl KeepsBut.drew KeepsBut.alloc KeepsBut.drewN

/-- Drawn locks, once the cursor is done with. -/
structure Drawn (w w' : World) (v : Value) (ls : List Lk) : Prop where
  mine : ∃ vs, Mine w' w.heap.size w'.heap.size v vs ls
  pos : 1 ≤ ls.length
  le : ls.length ≤ 6
  size : sizeN ls ≤ 17
  keep : Keeps w w'
theorem DK.drawn {w w1 w2 : World} {g : Nat} {v : Value} {ls : List Lk} (h : DK w1 w2 g v ls) (k : Keeps w w1) (hg : w.heap.size ≤ g) (h1 : 1 ≤ ls.length) (h2 : ls.length ≤ 6) (h3 : sizeN ls ≤ 17) : Drawn w w2 v ls := by
  obtain ⟨vs, M⟩ := h.mine
  exact ⟨⟨vs, M.widen k.size (Nat.le_refl _)⟩, h1, h2, h3, h.kb.keeps k hg⟩
/-- They are handed on. -/
theorem Drawn.args {w w' : World} {v : Value} {ls : List Lk} (h : Drawn w w' v ls) : ∃ a cap, v = .slice a ls.length cap ∧ Lks true w' a ls ∧ Plain w' a ls.length cap := by
  obtain ⟨vs, M⟩ := h.mine
  obtain ⟨a, cap, e, L, P, -⟩ := M.args
  exact ⟨a, cap, e, L, P⟩

end Go.Proofs.YtojfjafaeabkfaaGreat
namespace Go.Proofs.YtojfjafaeabkfaaGreat
open Go.RowKit

attribute [local go_sem] Keeps.refl Keeps.alloc Keeps.drew Keeps.drewN

theorem DK.rebase {w w1 wr : World} {g : Nat} {v : Value} {ls : List Lk} (h : DK w1 wr g v ls) (k : KeepsBut g w w1) : DK w wr g v ls := by
  obtain ⟨vs, M⟩ := h.mine
  exact ⟨⟨vs, M.widen k.size (Nat.le_refl _)⟩, h.cur, k.trans h.kb⟩
/-- A drawn task's number. -/
theorem DL.no {w wr : World} {g b cp : Nat} {ts : List Tsk} (h : DL w wr g (.slice (some ⟨b, 0, none⟩) ts.length cp) ts) {j : Nat} {t : Tsk} (ht : ts[j]? = some t) : wr.cell? ⟨b, j * 14, none⟩ = some (.int .i64 t.no) := by
  have := Own.cellAt h.own tc_size (i := j) (k := 0) ht (by omega)
  simpa using this

set_option maxRecDepth 100000 in
set_option maxHeartbeats 8000000 in
theorem l8DrawBoth_any (g : Nat) (w : World) (hc : Cur w g) :
    Calls Tryz.prog 30 #[.pointer (some ⟨g, 0, none⟩)] w fun e w' => ∃ (b cp : Nat) (ts : List Tsk) (v : Value) (ls : List Lk), e = .returned (.tuple #[.slice (some ⟨b, 0, none⟩) ts.length cp, v]) ∧ DL w w' g (.slice (some ⟨b, 0, none⟩) ts.length cp) ts ∧ ts.length ≤ 13 ∧ DK w w' g v ls ∧ ls.length ≤ 6 ∧ sizeN ls ≤ 17 := by
  have hgl := hc.lt
  go_enter Tryz.func30, Tryz.ntmps30
  go_wp2_with fail
  refine (l3DrawList_any g _ hc).mono ?_
  rintro e w1 ⟨vt, ts, rfl, D1, hts⟩
  obtain ⟨b, cp, rfl⟩ := D1.adr
  have T1 : Hid (DL w w1 g (.slice (some ⟨b, 0, none⟩) ts.length cp) ts) := D1
  have hg1 : g < w1.heap.size := D1.cur.lt
  have hc1 := D1.cur
  clear D1 hc
  obtain ⟨n, Hn⟩ : ∃ n, Hid (ts.length = n) := ⟨_, rfl⟩
  rw [Hn.out] at hts ⊢
  have hmk := run_make_locks 3 (by omega) 3 rfl
  have D0 : Hid (DK w1 (w1.alloc (.cells (madeCells #[.int .i64 0, .slice none 0 0] (3 * 2)) 53)) g (.slice (some ⟨w1.heap.size, 0, none⟩) 3 3) (List.replicate 3 ⟨0, []⟩)) := DK.made hc1 (KeepsBut.refl _ _) 3 (by omega)
  clear hc1
  go_wp2_with fail
  clear hmk
  simp only [Nat.reduceMul] at D0
  generalize w1.alloc (.cells (madeCells #[.int .i64 0, .slice none 0 0] 6) 53) = W at *
  generalize hv0 : Value.slice (some ⟨w1.heap.size, 0, none⟩) 3 3 = v0 at *
  clear hv0
  refine (l1Below_any g _ _ D0.out.cur (by omega) (by omega)).mono ?_
  rintro e w2 ⟨q, rfl, hq0, hq1, hc2, k2⟩
  have D2 : Hid (DK w1 w2 g v0 (List.replicate 3 ⟨0, []⟩)) := D0.out.but hg1 k2 hc2
  clear D0 k2 hc2
  obtain ⟨r, rfl⟩ := Int.eq_ofNat_of_zero_le hq0
  have hr : r < 8 := by omega
  go_wp2
  go_loopw [5, 7] (fun v i wr => ∃ (k : Nat) (ls : List Lk), k ≤ r ∧ i = .int .i64 k ∧ Hid (DK w1 wr g v ls) ∧ Hid (Right ls) ∧ Hid (ls.length = 3) ∧ Hid (sizeN ls ≤ 3 + k)) (fun _ i _ => r - (intOf i).toNat)
  case atStart => exact ⟨0, _, Nat.zero_le _, rfl, D2, right_zero (by omega), by show _ = _; simp, by show _ ≤ _; rw [sizeN_zero]; omega⟩
  case round =>
    obtain ⟨k, ls, hk, rfl, D, R, hl, hsz⟩ := hrel
    clear D2
    obtain ⟨a1, c1, rfl, -⟩ : ∃ a1 c1, _ = Value.slice a1 ls.length c1 ∧ True := by
      obtain ⟨vs, M⟩ := D.out.mine
      obtain ⟨a, cap, e, -, -, -⟩ := M.args
      exact ⟨a, cap, e, trivial⟩
    rw [hl.out] at D ⊢
    by_cases hgo : k < r ∧ 0 < n
    · have hlt' : (k : Int) < (r : Int) := by omega
      have hn0 : 0 < n := hgo.2
      have hn0' : (0 : Int) < (n : Int) := by omega
      go_wp2_with fail
      refine (l1Below_any g _ _ D.out.cur (by omega) (by omega)).mono ?_
      rintro e w3 ⟨x, rfl, hx0, hx1, hc3, k3⟩
      have D3 : Hid (DK w1 w3 g (.slice a1 3 c1) ls) := D.out.but hg1 k3 hc3
      clear D hc3 k3
      go_wp2_with fail
      refine (l1Below_any g _ _ D3.out.cur (by omega) (by omega)).mono ?_
      rintro e w4 ⟨y, rfl, hy0, hy1, hc4, k4⟩
      have D4 : Hid (DK w1 w4 g (.slice a1 3 c1) ls) := D3.out.but hg1 k4 hc4
      clear D3 hc4 k4
      obtain ⟨j, rfl⟩ := Int.eq_ofNat_of_zero_le hy0
      have hj : j < n := by omega
      have hj' : (j : Int) < (n : Int) := by omega
      obtain ⟨t, ht⟩ := some_at (xs := ts) (k := j) (by rw [Hn.out]; exact hj)
      have r1 : w4.cell? ⟨b, j * 14, none⟩ = some (.int .i64 t.no) := (T1.out.but hgl D4.out.kb D4.out.cur).no ht
      have L4 : Hid (Lks true w4 a1 ls) := by
        obtain ⟨vs, M⟩ := D4.out.mine
        obtain ⟨a', cap', e, L, -, -⟩ := M.args
        simp only [Value.slice.injEq] at e
        obtain ⟨rfl, -, -⟩ := e
        exact L
      clear ht
      go_wp2_with fail
      have SA := specLockAsk_any a1 c1 ls x t.no w4 (by have := hsz.out; omega) L4.out
      rw [hl.out] at SA
      refine SA.mono ?_
      rintro e w5 ⟨v5, vs5, rfl, M5, k5⟩
      have hR := ask_right R.out x t.no
      have D5 : Hid (DK w1 w5 g v5 (askL ls x t.no)) := ⟨⟨vs5, M5.widen (D4.out.kb.size) (Nat.le_refl _)⟩, D4.out.cur.keeps k5, D4.out.kb.trans (.of k5)⟩
      have hs5 : Hid (sizeN (askL ls x t.no) ≤ 3 + (k + 1)) := by show _ ≤ _; have := askL_size ls x t.no; have := hsz.out; omega
      have hl5 : Hid ((askL ls x t.no).length = 3) := by show _ = _; rw [hR.2]; exact hl.out
      have R5 : Hid (Right (askL ls x t.no)) := hR.1
      clear SA M5 k5 hR D4 L4 r1
      go_wp2
      exact ⟨⟨k + 1, _, by omega, by go_num, D5, R5, hl5, hs5⟩, by simp only [intOf]; omega⟩
    · have T5 : Hid (sizeN ls ≤ 17) := by show _ ≤ _; have := hsz.out; omega
      by_cases hlt : k < r
      · have hlt' : (k : Int) < (r : Int) := by omega
        have hn0 : decide (0 < n) = false := by simp; omega
        have hn1 : decide ((0 : Int) < (n : Int)) = false := by simp; omega
        go_wp2_with fail
        refine (l1Once_any g _ _ D.out.cur (by omega) (by omega)).mono ?_
        rintro e w6 ⟨bb, rfl, hc6, k6⟩
        have D6 : Hid (DK w1 w6 g (.slice a1 3 c1) ls) := D.out.but hg1 k6 hc6
        clear D hc6 k6
        cases bb
        · go_wp2
          go_ret2
          exact ⟨b, cp, ts, _, ls, by rw [Hn.out]; rfl, T1.out.but hgl D6.out.kb D6.out.cur, by rw [Hn.out]; exact hts, D6.out.rebase T1.out.kb, by rw [hl.out]; omega, T5.out⟩
        · go_wp2_with fail
          refine (l7Draw_any g _ D6.out.cur).mono ?_
          rintro e w7 ⟨v7, ls7, rfl, D7, p1, p2, p3⟩
          have HD7 : Hid (DK w6 w7 g v7 ls7) := D7
          clear D7
          go_wp2
          go_ret2
          exact ⟨b, cp, ts, v7, ls7, by rw [Hn.out]; rfl, T1.out.but hgl (D6.out.kb.trans HD7.out.kb) HD7.out.cur, by rw [Hn.out]; exact hts, HD7.out.rebase (T1.out.kb.trans D6.out.kb), p2, p3⟩
      · have hd : decide ((k : Int) < (r : Int)) = false := by simp; omega
        go_wp2_with fail
        refine (l1Once_any g _ _ D.out.cur (by omega) (by omega)).mono ?_
        rintro e w6 ⟨bb, rfl, hc6, k6⟩
        have D6 : Hid (DK w1 w6 g (.slice a1 3 c1) ls) := D.out.but hg1 k6 hc6
        clear D hc6 k6
        cases bb
        · go_wp2
          go_ret2
          exact ⟨b, cp, ts, _, ls, by rw [Hn.out]; rfl, T1.out.but hgl D6.out.kb D6.out.cur, by rw [Hn.out]; exact hts, D6.out.rebase T1.out.kb, by rw [hl.out]; omega, T5.out⟩
        · go_wp2_with fail
          refine (l7Draw_any g _ D6.out.cur).mono ?_
          rintro e w7 ⟨v7, ls7, rfl, D7, p1, p2, p3⟩
          have HD7 : Hid (DK w6 w7 g v7 ls7) := D7
          clear D7
          go_wp2
          go_ret2
          exact ⟨b, cp, ts, v7, ls7, by rw [Hn.out]; rfl, T1.out.but hgl (D6.out.kb.trans HD7.out.kb) HD7.out.cur, by rw [Hn.out]; exact hts, HD7.out.rebase (T1.out.kb.trans D6.out.kb), p2, p3⟩

/-- Drawn tasks and locks, once the cursor is done with. -/
structure Both (w w' : World) (b cp : Nat) (ts : List Tsk) (v : Value) (ls : List Lk) : Prop where
  two : ∃ a m cap, v = .slice a m cap ∧ Two w' (some ⟨b, 0, none⟩) ts.length cp ts a m cap ls
  room : ts.length ≤ cp
  len : ts.length ≤ 13
  keep : Keeps w w'
theorem DL.on {w wr : World} {g b cp : Nat} {ts : List Tsk} (h : DL w wr g (.slice (some ⟨b, 0, none⟩) ts.length cp) ts) : OnT wr (some ⟨b, 0, none⟩) ts.length cp ts ∧ ts.length ≤ cp := by
  obtain ⟨a, cap, e, l, h1, h2⟩ := h.own.slice tc_size
  simp only [Value.slice.injEq] at e
  obtain ⟨rfl, -, rfl⟩ := e
  exact ⟨⟨rfl, Nat.le_trans h1 h2, l⟩, h1⟩
theorem both_of {w w1 w2 : World} {g b cp : Nat} {ts : List Tsk} {v : Value} {ls : List Lk} (T : DL w1 w2 g (.slice (some ⟨b, 0, none⟩) ts.length cp) ts) (D : DK w1 w2 g v ls) (k : Keeps w w1) (hg : w.heap.size ≤ g) (h1 : ts.length ≤ 13) (h3 : sizeN ls ≤ 17) : Both w w2 b cp ts v ls := by
  obtain ⟨vs, M⟩ := D.mine
  obtain ⟨a, cap, e, o⟩ := On.of M (by omega)
  exact ⟨⟨a, _, cap, e, T.on.1, o⟩, T.on.2, h1, D.kb.keeps k hg⟩

set_option maxRecDepth 100000 in
set_option maxHeartbeats 4000000 in
theorem drawPick_any (a : Option Addr) (n cap : Nat) (w : World) (hn : n ≤ 1048576) (hb : ∀ g, w.heap.size ≤ g → Bytes g w a n) :
    Calls Tryz.prog 14 #[.slice a n cap] w fun e w' => ∃ (b cp : Nat) (ts : List Tsk) (v : Value) (ls : List Lk) (cpu : Int), e = .returned (.tuple #[.slice (some ⟨b, 0, none⟩) ts.length cp, v, .int .i64 cpu]) ∧ Both w w' b cp ts v ls := by
  go_enter Tryz.func14, Tryz.ntmps14
  go_wp2_with fail
  refine (l1New_any a n cap _ hn hb).mono ?_
  rintro e w1 ⟨g, rfl, hg, hc1, k1⟩
  have hg1 := hc1.lt
  clear hb
  go_wp2_with fail
  refine (l8DrawBoth_any g _ hc1).mono ?_
  rintro e w2 ⟨b, cp, ts, v, ls, rfl, T, hts, D, h2, h3⟩
  clear hc1
  have HT : Hid (DL w1 w2 g (.slice (some ⟨b, 0, none⟩) ts.length cp) ts) := T
  go_wp2_with fail
  refine (l1Below_any g _ _ D.cur (by omega) (by omega)).mono ?_
  rintro e w3 ⟨x, rfl, hx0, hx1, hc3, k3⟩
  have T3 : Hid (DL w1 w3 g (.slice (some ⟨b, 0, none⟩) ts.length cp) ts) := HT.out.but hg1 k3 hc3
  have D3 : Hid (DK w1 w3 g v ls) := D.but hg1 k3 hc3
  clear HT T D hc3 k3
  go_wp2_with fail
  refine (l1Below_any g _ _ D3.out.cur (by omega) (by omega)).mono ?_
  rintro e w4 ⟨y, rfl, hy0, hy1, hc4, k4⟩
  have HB : Hid (Both w w4 b cp ts v ls) := both_of (T3.out.but hg1 k4 hc4) (D3.out.but hg1 k4 hc4) k1 hg hts h3
  clear T3 D3 hc4 k4
  go_wp2
  go_ret3
  exact ⟨b, cp, ts, v, ls, _, rfl, HB.out⟩
end Go.Proofs.YtojfjafaeabkfaaGreat
namespace Go.Proofs.YtojfjafaeabkfaaGreat
open Go.RowKit
attribute [local go_sem] Keeps.refl Keeps.alloc Keeps.drew Keeps.drewN KeepsBut.refl KeepsBut.drew KeepsBut.alloc KeepsBut.drewN

theorem results_tmp4 {fn : Func} {t u v x : Tmp} (h : fn.results = #[.tmp t, .tmp u, .tmp v, .tmp x]) (tmps : Array Value) (P : Program) (w : World) :
    (results fn tmps).run P w = .ok (.tuple #[tmps.getD t undef, tmps.getD u undef, tmps.getD v undef, tmps.getD x undef]) w := by
  simp [results, h]

end Go.Proofs.YtojfjafaeabkfaaGreat
namespace Go.Proofs.YtojfjafaeabkfaaGreat
open Go.RowKit
attribute [local go_sem] Keeps.refl Keeps.alloc Keeps.drew Keeps.drewN

/-- A row of numbers that grows, beside the cursor. -/
structure DN (w wr : World) (g : Nat) (v : Value) (xs : List Int) : Prop where
  own : OwnN wr w.heap.size v xs
  cur : Cur wr g
  kb : KeepsBut g w wr
theorem DN.but {w wr wr' : World} {g : Nat} {v : Value} {xs : List Int} (h : DN w wr g v xs) (hg : g < w.heap.size) (k : KeepsBut g wr wr') (hc : Cur wr' g) : DN w wr' g v xs :=
  ⟨h.own.butG k hg, hc, h.kb.trans k⟩
theorem DN.alloc {w wr : World} {g : Nat} {v : Value} {xs : List Int} (h : DN w wr g v xs) (o : Obj) : DN w (wr.alloc o) g v xs := ⟨h.own.alloc o, h.cur.keeps ((Keeps.refl _).alloc _), h.kb.alloc _⟩
theorem DN.grown {w wr wr' : World} {g : Nat} {v v' : Value} {xs ys : List Int} (h : DN w wr g v xs) (hg : g < w.heap.size) (o : OwnN wr' w.heap.size v' ys) (gr : wr.grownBy wr' v.ownBlock) : DN w wr' g v' ys :=
  ⟨o, h.cur.grown gr (fun k hk => Nat.lt_of_lt_of_le hg (h.own.ltb k hk).1), h.kb.grown gr (fun k hk => (h.own.ltb k hk).1)⟩
theorem DN.slice {w wr : World} {g : Nat} {v : Value} {xs : List Int} (h : DN w wr g v xs) : ∃ a cap, v = .slice a xs.length cap ∧ Ns wr a xs ∧ xs.length ≤ cap := by
  obtain ⟨a, cap, e, N, l, -⟩ := OwnN.ns h.own
  exact ⟨a, cap, e, N, l⟩

end Go.Proofs.YtojfjafaeabkfaaGreat
