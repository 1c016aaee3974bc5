/-
  What the laws of chapter 7 draw: the contracts of the model's DrawLockAsk, DrawChainOf, DrawOwnsAny, DrawWaitAt.
  What the laws of chapter 8 draw.
  What FnBest draws: the contract of the model's DrawBestOf.
  What FnFreed draws: the contract of the model's DrawLockFree.
-/
import Derived.Test.YtojfjafaeabkfaaGDraw2
import Derived.Test.YtojfjafaeabkfaaGLock4
import Derived.Test.YtojfjafaeabkfaaGPick1
namespace Go.Proofs.Ytojfjafaeabkfaa
open Go.RowKit
attribute [local go_sem] Keeps.refl Keeps.alloc Keeps.drew Keeps.drewN KeepsBut.refl KeepsBut.drew KeepsBut.alloc KeepsBut.drewN

/-- Drawn locks, once the cursor is done with. -/
structure Drawn (w w' : World) (v : Value) (ls : List Lk) : Prop where
  mine : ∃ vs, Mine w' w.heap.size w'.heap.size v vs ls
  pos : 1 ≤ ls.length
  le : ls.length ≤ 6
  size : sizeN ls ≤ 17
  keep : Keeps w w'
theorem DK.drawn {w w1 w2 : World} {g : Nat} {v : Value} {ls : List Lk} (h : DK w1 w2 g v ls) (k : Keeps w w1) (hg : w.heap.size ≤ g) (h1 : 1 ≤ ls.length) (h2 : ls.length ≤ 6) (h3 : sizeN ls ≤ 17) : Drawn w w2 v ls := by
  obtain ⟨vs, M⟩ := h.mine
  exact ⟨⟨vs, M.widen k.size (Nat.le_refl _)⟩, h1, h2, h3, h.kb.keeps k hg⟩
/-- They are handed on. -/
theorem Drawn.args {w w' : World} {v : Value} {ls : List Lk} (h : Drawn w w' v ls) : ∃ a cap, v = .slice a ls.length cap ∧ Lks true w' a ls ∧ Plain w' a ls.length cap := by
  obtain ⟨vs, M⟩ := h.mine
  obtain ⟨a, cap, e, L, P, -⟩ := M.args
  exact ⟨a, cap, e, L, P⟩

end Go.Proofs.Ytojfjafaeabkfaa
namespace Go.Proofs.Ytojfjafaeabkfaa
open Go.RowKit

set_option maxRecDepth 100000 in
set_option maxHeartbeats 2000000 in
theorem drawBefore_any (a : Option Addr) (n cap : Nat) (w : World) (hn : n ≤ 1048576) (hb : ∀ g, w.heap.size ≤ g → Bytes g w a n) :
    Calls Try.prog 31 #[.slice a n cap] w fun e w' => ∃ t u : Tsk, e = .returned (.tuple #[tk t, tk u]) ∧ Keeps w w' := by
  go_enter Try.func31, Try.ntmps31
  go_wp2_with fail
  have kW : Keeps w ((w.alloc (.cells (tc Tsk.zero) 25)).alloc (.cells (tc Tsk.zero) 25)) := ((Keeps.refl w).alloc _).alloc _
  have B0 := (Blk.new w (tc Tsk.zero) 25).alloc (.cells (tc Tsk.zero) 25)
  have A0 := Blk.new (w.alloc (.cells (tc Tsk.zero) 25)) (tc Tsk.zero) 25
  simp only [World.size_alloc] at A0
  refine (l1New_any a n cap _ hn (fun g hg => (hb g (by have := kW.size; omega)).but (.of kW))).mono ?_
  rintro e w1 ⟨g, rfl, hg, hc1, k1⟩
  clear hb
  have K1 := kW.trans k1
  have B1 := B0.keeps k1
  have A1 := A0.keeps k1
  have hwg : w.heap.size + 1 < g := by simp at hg; omega
  clear kW k1 B0 A0 hg
  go_wp2_with fail
  refine (l3Draw_any g _ hc1).mono ?_
  rintro e w2 ⟨t, rfl, hc2, k2⟩
  have B2 := B1.but k2 (by omega)
  have A2 := A1.but k2 (by omega)
  have K2 := k2.keeps K1 (by omega)
  have hgl := hc2.lt
  go_wp2_with fail
  have H0 : HasB g w w2.heap.size (tc t) (w2.alloc (.cells (tc t) 25)) := ⟨.of (K2.alloc _), Blk.new _ _ _⟩
  have R0 : Blk (w2.alloc (.cells (tc t) 25)) w.heap.size (tc Tsk.zero) := B2.alloc _
  have Q0 : Blk (w2.alloc (.cells (tc t) 25)) (w.heap.size + 1) (tc Tsk.zero) := A2.alloc _
  have hc3 := hc2.keeps ((Keeps.refl w2).alloc (.cells (tc t) 25))
  have K3 : Keeps w (w2.alloc (.cells (tc t) 25)) := K2.alloc _
  have hsg : w2.heap.size ≠ g := by omega
  have hrs : w.heap.size ≠ w2.heap.size := by have := B2.lt; omega
  have hqs : w.heap.size + 1 ≠ w2.heap.size := by have := A2.lt; omega
  clear B1 B2 A1 A2 K1 K2 k2 hc1 hc2
  generalize w2.alloc (.cells (tc t) 25) = W at *
  generalize w2.heap.size = s at *
  have r1 : ∀ w', HasB g w s (tc t) w' → ∀ k, w'.cell? ⟨s, k, none⟩ = (tc t)[k]? := fun w' h => h.box.cells
  have hc4 := hc3.keeps (Keeps.refl W).drew
  refine wp_region_held_drew (S := (fun w' => HasB g w s (tc t) w')) (by kernel_rfl) ?_ (fun hHeld => ?_)
  · exact H0.but (.of (Keeps.refl _).drew) hsg
  refine wpAnyH_take (i := 0) (v := ?_) (by simp only [List.getElem?_toArray, List.getElem?_cons_zero]; rfl) (by kernel_rfl) (by kernel_rfl) (by kernel_rfl) (by exact fun _ _ _ h => h) (Or.inl ⟨by rfl, ?_⟩) (by assumption) ?_
  rotate_left
  · (intro w hSw; (try dsimp only at hSw); go_simp; try (with_reducible rfl))
  try simp only [Act.put, List.setIfInBounds_toArray, List.set_cons_zero, List.set_cons_succ]
  refine wpAnyH_take (i := 1) (v := ?_) (by simp only [List.getElem?_toArray, List.getElem?_cons_succ, List.getElem?_cons_zero]; rfl) (by kernel_rfl) (by kernel_rfl) (by kernel_rfl) (by exact fun _ _ _ h => h) (Or.inl ⟨by rfl, ?_⟩) (by assumption) ?_
  rotate_left
  · (intro w hSw; (try dsimp only at hSw); go_simp; try (with_reducible rfl))
  try simp only [Act.put, List.setIfInBounds_toArray, List.set_cons_zero, List.set_cons_succ]
  refine wpAnyH_ready (rs := [2]) (by kernel_rfl) (by simp) ?_
  refine AllReadyH.cons (by simp only [List.getElem?_toArray, List.getElem?_cons_succ, List.getElem?_cons_zero]; rfl) (fun K hK => ?_) AllReadyH.nil
  go_simp
  first
    | (go_at_call 61; refine (l3Draw_any g _ hc4).mono ?_; rintro e w5 ⟨u, rfl, hc5, k5⟩)
  try go_wp2_with fail
  refine hK.out _ _ ?_ (fun hHeld => ?_)
  · exact hHeld.but k5 hsg
  clear hK K
  try simp only [Act.put, List.setIfInBounds_toArray, List.set_cons_zero, List.set_cons_succ]
  refine wpAnyH_ready (rs := [3]) (by kernel_rfl) (by simp) ?_
  refine AllReadyH.cons (by simp only [List.getElem?_toArray, List.getElem?_cons_succ, List.getElem?_cons_zero]; rfl) (fun K hK => ?_) AllReadyH.nil
  have HB := R0.but ((KeepsBut.of (Keeps.refl W).drew).trans k5) (by omega); have HA := Q0.but ((KeepsBut.of (Keeps.refl W).drew).trans k5) (by omega); have HD : Hid (Blk w5 w.heap.size (tc Tsk.zero)) := HB; have HE : Hid (Blk w5 (w.heap.size + 1) (tc Tsk.zero)) := HA; obtain ⟨_, q1, q2⟩ := HB; obtain ⟨_, q3, q4⟩ := HA
  go_simp
  try go_wp2_with fail
  refine hK.out _ _ ?_ (fun hHeld => ?_)
  · exact hHeld.put (r := w.heap.size) (by omega) hrs 0 (tc t).toList
  clear hK K
  try simp only [Act.put, List.setIfInBounds_toArray, List.set_cons_zero, List.set_cons_succ]
  refine wpAnyH_ready (rs := [4]) (by kernel_rfl) (by simp) ?_
  refine AllReadyH.cons (by simp only [List.getElem?_toArray, List.getElem?_cons_succ, List.getElem?_cons_zero]; rfl) (fun K hK => ?_) AllReadyH.nil
  skip
  go_simp
  try go_wp2_with fail
  refine hK.out _ _ ?_ (fun hHeld => ?_)
  · exact HasB.put (by assumption) (r := w.heap.size + 1) (by omega) hqs 0 (tc u).toList
  clear hK K
  try simp only [Act.put, List.setIfInBounds_toArray, List.set_cons_zero, List.set_cons_succ]
  refine wpAnyH_done (by kernel_rfl) ?_ _
  go_wp2
  have D := Blk.farC (c := w.heap.size + 1) (by omega) (tc u).toList 0 (HD.out.putC (tc t).toList rfl)
  have E := (Blk.farC (c := w.heap.size) (by omega) (tc t).toList 0 HE.out).putC (tc u).toList rfl
  have K := Keeps.putC (b := w.heap.size + 1) (by omega) (tc u).toList 0 (Keeps.putC (b := w.heap.size) (Nat.le_refl _) (tc t).toList 0 (k5.keeps K3.drew (by omega)))
  change bodyPost _ _ _ _ _ (putC (putC w5 w.heap.size 0 (tc t).toList) (w.heap.size + 1) 0 (tc u).toList)
  generalize putC (putC w5 w.heap.size 0 (tc t).toList) (w.heap.size + 1) 0 (tc u).toList = X at D E K ⊢
  exact bodyPost_ret (v := .tuple #[tk t, tk u]) (by simp [results, Try.results31, go_sem, D.cells, E.cells]) rfl ⟨t, u, rfl, K⟩


attribute [local go_sem] Keeps.refl Keeps.alloc Keeps.drew Keeps.drewN

theorem DK.rebase {w w1 wr : World} {g : Nat} {v : Value} {ls : List Lk} (h : DK w1 wr g v ls) (k : KeepsBut g w w1) : DK w wr g v ls := by
  obtain ⟨vs, M⟩ := h.mine
  exact ⟨⟨vs, M.widen k.size (Nat.le_refl _)⟩, h.cur, k.trans h.kb⟩
/-- A drawn task's number. -/
theorem DL.no {w wr : World} {g b cp : Nat} {ts : List Tsk} (h : DL w wr g (.slice (some ⟨b, 0, none⟩) ts.length cp) ts) {j : Nat} {t : Tsk} (ht : ts[j]? = some t) : wr.cell? ⟨b, j * 14, none⟩ = some (.int .i64 t.no) := by
  have := Own.cellAt h.own tc_size (i := j) (k := 0) ht (by omega)
  simpa using this

set_option maxRecDepth 100000 in
set_option maxHeartbeats 8000000 in
theorem l8DrawBoth_any (g : Nat) (w : World) (hc : Cur w g) :
    Calls Try.prog 99 #[.pointer (some ⟨g, 0, none⟩)] w fun e w' => ∃ (b cp : Nat) (ts : List Tsk) (v : Value) (ls : List Lk), e = .returned (.tuple #[.slice (some ⟨b, 0, none⟩) ts.length cp, v]) ∧ DL w w' g (.slice (some ⟨b, 0, none⟩) ts.length cp) ts ∧ ts.length ≤ 13 ∧ DK w w' g v ls ∧ ls.length ≤ 6 ∧ sizeN ls ≤ 17 := by
  have hgl := hc.lt
  go_enter Try.func99, Try.ntmps99
  go_wp2_with fail
  refine (l3DrawList_any g _ hc).mono ?_
  rintro e w1 ⟨vt, ts, rfl, D1, hts⟩
  obtain ⟨b, cp, rfl⟩ := D1.adr
  have T1 : Hid (DL w w1 g (.slice (some ⟨b, 0, none⟩) ts.length cp) ts) := D1
  have hg1 : g < w1.heap.size := D1.cur.lt
  have hc1 := D1.cur
  clear D1 hc
  obtain ⟨n, Hn⟩ : ∃ n, Hid (ts.length = n) := ⟨_, rfl⟩
  rw [Hn.out] at hts ⊢
  have hmk := run_make_locks 3 (by omega) 3 rfl
  have D0 : Hid (DK w1 (w1.alloc (.cells (madeCells #[.int .i64 0, .slice none 0 0] (3 * 2)) 67)) g (.slice (some ⟨w1.heap.size, 0, none⟩) 3 3) (List.replicate 3 ⟨0, []⟩)) := DK.made hc1 (KeepsBut.refl _ _) 3 (by omega)
  clear hc1
  go_wp2_with fail
  clear hmk
  simp only [Nat.reduceMul] at D0
  generalize w1.alloc (.cells (madeCells #[.int .i64 0, .slice none 0 0] 6) 67) = W at *
  generalize hv0 : Value.slice (some ⟨w1.heap.size, 0, none⟩) 3 3 = v0 at *
  clear hv0
  refine (l1Below_any g _ _ D0.out.cur (by omega) (by omega)).mono ?_
  rintro e w2 ⟨q, rfl, hq0, hq1, hc2, k2⟩
  have D2 : Hid (DK w1 w2 g v0 (List.replicate 3 ⟨0, []⟩)) := D0.out.but hg1 k2 hc2
  clear D0 k2 hc2
  obtain ⟨r, rfl⟩ := Int.eq_ofNat_of_zero_le hq0
  have hr : r < 8 := by omega
  go_wp2
  go_loopw [5, 7] (fun v i wr => ∃ (k : Nat) (ls : List Lk), k ≤ r ∧ i = .int .i64 k ∧ Hid (DK w1 wr g v ls) ∧ Hid (Right ls) ∧ Hid (ls.length = 3) ∧ Hid (sizeN ls ≤ 3 + k)) (fun _ i _ => r - (intOf i).toNat)
  case atStart => exact ⟨0, _, Nat.zero_le _, rfl, D2, right_zero (by omega), by show _ = _; simp, by show _ ≤ _; rw [sizeN_zero]; omega⟩
  case round =>
    obtain ⟨k, ls, hk, rfl, D, R, hl, hsz⟩ := hrel
    clear D2
    obtain ⟨a1, c1, rfl, -⟩ : ∃ a1 c1, _ = Value.slice a1 ls.length c1 ∧ True := by
      obtain ⟨vs, M⟩ := D.out.mine
      obtain ⟨a, cap, e, -, -, -⟩ := M.args
      exact ⟨a, cap, e, trivial⟩
    rw [hl.out] at D ⊢
    by_cases hgo : k < r ∧ 0 < n
    · have hlt' : (k : Int) < (r : Int) := by omega
      have hn0 : 0 < n := hgo.2
      have hn0' : (0 : Int) < (n : Int) := by omega
      go_wp2_with fail
      refine (l1Below_any g _ _ D.out.cur (by omega) (by omega)).mono ?_
      rintro e w3 ⟨x, rfl, hx0, hx1, hc3, k3⟩
      have D3 : Hid (DK w1 w3 g (.slice a1 3 c1) ls) := D.out.but hg1 k3 hc3
      clear D hc3 k3
      go_wp2_with fail
      refine (l1Below_any g _ _ D3.out.cur (by omega) (by omega)).mono ?_
      rintro e w4 ⟨y, rfl, hy0, hy1, hc4, k4⟩
      have D4 : Hid (DK w1 w4 g (.slice a1 3 c1) ls) := D3.out.but hg1 k4 hc4
      clear D3 hc4 k4
      obtain ⟨j, rfl⟩ := Int.eq_ofNat_of_zero_le hy0
      have hj : j < n := by omega
      have hj' : (j : Int) < (n : Int) := by omega
      obtain ⟨t, ht⟩ := some_at (xs := ts) (k := j) (by rw [Hn.out]; exact hj)
      have r1 : w4.cell? ⟨b, j * 14, none⟩ = some (.int .i64 t.no) := (T1.out.but hgl D4.out.kb D4.out.cur).no ht
      have L4 : Hid (Lks true w4 a1 ls) := by
        obtain ⟨vs, M⟩ := D4.out.mine
        obtain ⟨a', cap', e, L, -, -⟩ := M.args
        simp only [Value.slice.injEq] at e
        obtain ⟨rfl, -, -⟩ := e
        exact L
      clear ht
      go_wp2_with fail
      have SA := specLockAsk_any a1 c1 ls x t.no w4 (by have := hsz.out; omega) L4.out
      rw [hl.out] at SA
      refine SA.mono ?_
      rintro e w5 ⟨v5, vs5, rfl, M5, k5⟩
      have hR := ask_right R.out x t.no
      have D5 : Hid (DK w1 w5 g v5 (askL ls x t.no)) := ⟨⟨vs5, M5.widen (D4.out.kb.size) (Nat.le_refl _)⟩, D4.out.cur.keeps k5, D4.out.kb.trans (.of k5)⟩
      have hs5 : Hid (sizeN (askL ls x t.no) ≤ 3 + (k + 1)) := by show _ ≤ _; have := askL_size ls x t.no; have := hsz.out; omega
      have hl5 : Hid ((askL ls x t.no).length = 3) := by show _ = _; rw [hR.2]; exact hl.out
      have R5 : Hid (Right (askL ls x t.no)) := hR.1
      clear SA M5 k5 hR D4 L4 r1
      go_wp2
      exact ⟨⟨k + 1, _, by omega, by go_num, D5, R5, hl5, hs5⟩, by simp only [intOf]; omega⟩
    · have T5 : Hid (sizeN ls ≤ 17) := by show _ ≤ _; have := hsz.out; omega
      by_cases hlt : k < r
      · have hlt' : (k : Int) < (r : Int) := by omega
        have hn0 : decide (0 < n) = false := by simp; omega
        have hn1 : decide ((0 : Int) < (n : Int)) = false := by simp; omega
        go_wp2_with fail
        refine (l1Once_any g _ _ D.out.cur (by omega) (by omega)).mono ?_
        rintro e w6 ⟨bb, rfl, hc6, k6⟩
        have D6 : Hid (DK w1 w6 g (.slice a1 3 c1) ls) := D.out.but hg1 k6 hc6
        clear D hc6 k6
        cases bb
        · go_wp2
          go_ret2
          exact ⟨b, cp, ts, _, ls, by rw [Hn.out]; rfl, T1.out.but hgl D6.out.kb D6.out.cur, by rw [Hn.out]; exact hts, D6.out.rebase T1.out.kb, by rw [hl.out]; omega, T5.out⟩
        · go_wp2_with fail
          refine (l7Draw_any g _ D6.out.cur).mono ?_
          rintro e w7 ⟨v7, ls7, rfl, D7, p1, p2, p3⟩
          have HD7 : Hid (DK w6 w7 g v7 ls7) := D7
          clear D7
          go_wp2
          go_ret2
          exact ⟨b, cp, ts, v7, ls7, by rw [Hn.out]; rfl, T1.out.but hgl (D6.out.kb.trans HD7.out.kb) HD7.out.cur, by rw [Hn.out]; exact hts, HD7.out.rebase (T1.out.kb.trans D6.out.kb), p2, p3⟩
      · have hd : decide ((k : Int) < (r : Int)) = false := by simp; omega
        go_wp2_with fail
        refine (l1Once_any g _ _ D.out.cur (by omega) (by omega)).mono ?_
        rintro e w6 ⟨bb, rfl, hc6, k6⟩
        have D6 : Hid (DK w1 w6 g (.slice a1 3 c1) ls) := D.out.but hg1 k6 hc6
        clear D hc6 k6
        cases bb
        · go_wp2
          go_ret2
          exact ⟨b, cp, ts, _, ls, by rw [Hn.out]; rfl, T1.out.but hgl D6.out.kb D6.out.cur, by rw [Hn.out]; exact hts, D6.out.rebase T1.out.kb, by rw [hl.out]; omega, T5.out⟩
        · go_wp2_with fail
          refine (l7Draw_any g _ D6.out.cur).mono ?_
          rintro e w7 ⟨v7, ls7, rfl, D7, p1, p2, p3⟩
          have HD7 : Hid (DK w6 w7 g v7 ls7) := D7
          clear D7
          go_wp2
          go_ret2
          exact ⟨b, cp, ts, v7, ls7, by rw [Hn.out]; rfl, T1.out.but hgl (D6.out.kb.trans HD7.out.kb) HD7.out.cur, by rw [Hn.out]; exact hts, HD7.out.rebase (T1.out.kb.trans D6.out.kb), p2, p3⟩

/-- Drawn tasks and locks, once the cursor is done with. -/
structure Both (w w' : World) (b cp : Nat) (ts : List Tsk) (v : Value) (ls : List Lk) : Prop where
  two : ∃ a m cap, v = .slice a m cap ∧ Two w' (some ⟨b, 0, none⟩) ts.length cp ts a m cap ls
  room : ts.length ≤ cp
  len : ts.length ≤ 13
  keep : Keeps w w'
theorem DL.on {w wr : World} {g b cp : Nat} {ts : List Tsk} (h : DL w wr g (.slice (some ⟨b, 0, none⟩) ts.length cp) ts) : OnT wr (some ⟨b, 0, none⟩) ts.length cp ts ∧ ts.length ≤ cp := by
  obtain ⟨a, cap, e, l, h1, h2⟩ := h.own.slice tc_size
  simp only [Value.slice.injEq] at e
  obtain ⟨rfl, -, rfl⟩ := e
  exact ⟨⟨rfl, Nat.le_trans h1 h2, l⟩, h1⟩
theorem both_of {w w1 w2 : World} {g b cp : Nat} {ts : List Tsk} {v : Value} {ls : List Lk} (T : DL w1 w2 g (.slice (some ⟨b, 0, none⟩) ts.length cp) ts) (D : DK w1 w2 g v ls) (k : Keeps w w1) (hg : w.heap.size ≤ g) (h1 : ts.length ≤ 13) (h3 : sizeN ls ≤ 17) : Both w w2 b cp ts v ls := by
  obtain ⟨vs, M⟩ := D.mine
  obtain ⟨a, cap, e, o⟩ := On.of M (by omega)
  exact ⟨⟨a, _, cap, e, T.on.1, o⟩, T.on.2, h1, D.kb.keeps k hg⟩

set_option maxRecDepth 100000 in
set_option maxHeartbeats 4000000 in
theorem l8DrawOne_any (a : Option Addr) (n cap : Nat) (w : World) (hn : n ≤ 1048576) (hb : ∀ g, w.heap.size ≤ g → Bytes g w a n) :
    Calls Try.prog 72 #[.slice a n cap] w fun e w' => ∃ (b cp : Nat) (ts : List Tsk) (v : Value) (ls : List Lk) (no : Int), e = .returned (.tuple #[.slice (some ⟨b, 0, none⟩) ts.length cp, v, .int .i64 no]) ∧ Both w w' b cp ts v ls := by
  go_enter Try.func72, Try.ntmps72
  go_wp2_with fail
  refine (l1New_any a n cap _ hn hb).mono ?_
  rintro e w1 ⟨g, rfl, hg, hc1, k1⟩
  have hg1 := hc1.lt
  clear hb
  go_wp2_with fail
  refine (l8DrawBoth_any g _ hc1).mono ?_
  rintro e w2 ⟨b, cp, ts, v, ls, rfl, T, hts, D, h2, h3⟩
  clear hc1
  obtain ⟨m, Hm⟩ : ∃ m, Hid (ts.length = m) := ⟨_, rfl⟩
  have HT : Hid (DL w1 w2 g (.slice (some ⟨b, 0, none⟩) ts.length cp) ts) := T
  rw [Hm.out] at hts ⊢
  go_wp2_with fail
  refine (l1Below_any g _ _ D.cur (by omega) (by omega)).mono ?_
  rintro e w3 ⟨x, rfl, hx0, hx1, hc3, k3⟩
  have T3 : Hid (DL w1 w3 g (.slice (some ⟨b, 0, none⟩) ts.length cp) ts) := HT.out.but hg1 k3 hc3
  have D3 : Hid (DK w1 w3 g v ls) := D.but hg1 k3 hc3
  clear HT T D hc3 k3
  by_cases hm0 : 0 < m
  · have hm0' : (0 : Int) < (m : Int) := by omega
    go_wp2_with fail
    refine (l1Once_any g _ _ D3.out.cur (by omega) (by omega)).mono ?_
    rintro e w4 ⟨bb, rfl, hc4, k4⟩
    have T4 : Hid (DL w1 w4 g (.slice (some ⟨b, 0, none⟩) ts.length cp) ts) := T3.out.but hg1 k4 hc4
    have D4 : Hid (DK w1 w4 g v ls) := D3.out.but hg1 k4 hc4
    clear T3 D3 hc4 k4
    cases bb
    · go_wp2_with fail
      refine (l1Below_any g _ _ D4.out.cur (by omega) (by omega)).mono ?_
      rintro e w5 ⟨y, rfl, hy0, hy1, hc5, k5⟩
      have T5 : Hid (DL w1 w5 g (.slice (some ⟨b, 0, none⟩) ts.length cp) ts) := T4.out.but hg1 k5 hc5
      have D5 : Hid (DK w1 w5 g v ls) := D4.out.but hg1 k5 hc5
      clear T4 D4 hc5 k5
      obtain ⟨j, rfl⟩ := Int.eq_ofNat_of_zero_le hy0
      have hj : j < m := by omega
      have hj' : (j : Int) < (m : Int) := by omega
      obtain ⟨t, ht⟩ := some_at (xs := ts) (k := j) (by rw [Hm.out]; exact hj)
      have r1 : w5.cell? ⟨b, j * 14, none⟩ = some (.int .i64 t.no) := T5.out.no ht
      have HB : Hid (Both w w5 b cp ts v ls) := both_of T5.out D5.out k1 hg (by rw [Hm.out]; exact hts) h3
      clear ht T5 D5
      go_wp2
      go_ret3
      exact ⟨b, cp, ts, v, ls, _, by rw [Hm.out]; rfl, HB.out⟩
    · have HB : Hid (Both w w4 b cp ts v ls) := both_of T4.out D4.out k1 hg (by rw [Hm.out]; exact hts) h3
      clear T4 D4
      go_wp2
      go_ret3
      exact ⟨b, cp, ts, v, ls, _, by rw [Hm.out]; rfl, HB.out⟩
  · have hd : decide (0 < m) = false := by simp; omega
    have hd' : decide ((0 : Int) < (m : Int)) = false := by simp; omega
    have HB : Hid (Both w w3 b cp ts v ls) := both_of T3.out D3.out k1 hg (by rw [Hm.out]; exact hts) h3
    clear T3 D3
    go_wp2
    go_ret3
    exact ⟨b, cp, ts, v, ls, _, by rw [Hm.out]; rfl, HB.out⟩
set_option maxRecDepth 100000 in
set_option maxHeartbeats 2000000 in
theorem drawCanTurn_any (a : Option Addr) (n cap : Nat) (w : World) (hn : n ≤ 1048576) (hb : ∀ g, w.heap.size ≤ g → Bytes g w a n) :
    Calls Try.prog 36 #[.slice a n cap] w fun e w' => ∃ (b cp : Nat) (ts : List Tsk) (v : Value) (ls : List Lk) (no : Int), e = .returned (.tuple #[.slice (some ⟨b, 0, none⟩) ts.length cp, v, .int .i64 no]) ∧ Both w w' b cp ts v ls := by
  go_enter Try.func36, Try.ntmps36
  go_wp2_with fail
  refine (l8DrawOne_any a n cap _ hn hb).mono ?_
  rintro e w1 ⟨b, cp, ts, v, ls, no, rfl, B⟩
  clear hb
  go_wp2
  go_ret3
  exact ⟨b, cp, ts, v, ls, no, rfl, B⟩
end Go.Proofs.Ytojfjafaeabkfaa
namespace Go.Proofs.Ytojfjafaeabkfaa
open Go.RowKit
attribute [local go_sem] Keeps.refl Keeps.alloc Keeps.drew Keeps.drewN

/-- A row of numbers that grows, beside the cursor. -/
structure DN (w wr : World) (g : Nat) (v : Value) (xs : List Int) : Prop where
  own : OwnN wr w.heap.size v xs
  cur : Cur wr g
  kb : KeepsBut g w wr
theorem DN.but {w wr wr' : World} {g : Nat} {v : Value} {xs : List Int} (h : DN w wr g v xs) (hg : g < w.heap.size) (k : KeepsBut g wr wr') (hc : Cur wr' g) : DN w wr' g v xs :=
  ⟨h.own.butG k hg, hc, h.kb.trans k⟩
theorem DN.alloc {w wr : World} {g : Nat} {v : Value} {xs : List Int} (h : DN w wr g v xs) (o : Obj) : DN w (wr.alloc o) g v xs := ⟨h.own.alloc o, h.cur.keeps ((Keeps.refl _).alloc _), h.kb.alloc _⟩
theorem DN.grown {w wr wr' : World} {g : Nat} {v v' : Value} {xs ys : List Int} (h : DN w wr g v xs) (hg : g < w.heap.size) (o : OwnN wr' w.heap.size v' ys) (gr : wr.grownBy wr' v.ownBlock) : DN w wr' g v' ys :=
  ⟨o, h.cur.grown gr (fun k hk => Nat.lt_of_lt_of_le hg (h.own.ltb k hk).1), h.kb.grown gr (fun k hk => (h.own.ltb k hk).1)⟩
theorem DN.slice {w wr : World} {g : Nat} {v : Value} {xs : List Int} (h : DN w wr g v xs) : ∃ a cap, v = .slice a xs.length cap ∧ Ns wr a xs ∧ xs.length ≤ cap := by
  obtain ⟨a, cap, e, N, l, -⟩ := OwnN.ns h.own
  exact ⟨a, cap, e, N, l⟩

set_option maxRecDepth 100000 in
set_option maxHeartbeats 8000000 in
theorem drawBestOf_any (a : Option Addr) (n cap : Nat) (w : World) (hn : n ≤ 1048576) (hb : ∀ g, w.heap.size ≤ g → Bytes g w a n) :
    Calls Try.prog 39 #[.slice a n cap] w fun e w' => ∃ (b cp : Nat) (ts : List Tsk) (a' : Option Addr) (cap' : Nat) (xs : List Int), e = .returned (.tuple #[.slice (some ⟨b, 0, none⟩) ts.length cp, .slice a' xs.length cap']) ∧ OnT w' (some ⟨b, 0, none⟩) ts.length cp ts ∧ ts.length ≤ cp ∧ ts.length ≤ 13 ∧ Ns w' a' xs ∧ xs.length ≤ cap' ∧ xs.length ≤ 12 ∧ Keeps w w' := by
  go_enter Try.func39, Try.ntmps39
  go_wp2_with fail
  refine (l1New_any a n cap _ hn hb).mono ?_
  rintro e w1 ⟨g, rfl, hg, hc1, k1⟩
  have hg1 := hc1.lt
  clear hb
  go_wp2_with fail
  refine (l3DrawList_any g _ hc1).mono ?_
  rintro e w2 ⟨vt, ts, rfl, T, hts⟩
  obtain ⟨b, cp, rfl⟩ := T.adr
  have HT : Hid (DL w1 w2 g (.slice (some ⟨b, 0, none⟩) ts.length cp) ts) := T
  have hg2 : g < w2.heap.size := T.cur.lt
  have hc2 := T.cur
  clear T hc1
  obtain ⟨m, Hm⟩ : ∃ m, Hid (ts.length = m) := ⟨_, rfl⟩
  rw [Hm.out] at hts ⊢
  have D0 : Hid (DN w2 (w2.alloc (.cells #[] 3)) g (.slice (some ⟨w2.heap.size, 0, none⟩) 0 0) []) := ⟨Own.new 3 1 ic w2 (Nat.le_refl _), hc2.keeps ((Keeps.refl _).alloc _), (KeepsBut.refl g w2).alloc _⟩
  clear hc2
  go_wp2
  generalize w2.alloc (.cells #[] 3) = W at *
  generalize hv0 : Value.slice (some ⟨w2.heap.size, 0, none⟩) 0 0 = v0 at *
  clear hv0
  go_loopw [6, 7] (fun v i wr => ∃ (k : Nat) (xs : List Int), k ≤ 6 ∧ i = .int .i64 k ∧ Hid (DN w2 wr g v xs) ∧ Hid (xs.length ≤ 2 * k)) (fun _ i _ => 6 - (intOf i).toNat)
  case atStart => exact ⟨0, [], by omega, rfl, D0, by show _ ≤ _; simp⟩
  case round =>
    obtain ⟨k, xs, hk, rfl, D, hx⟩ := hrel
    clear D0
    obtain ⟨av, cv, e, -, -⟩ := D.out.slice
    subst e
    obtain ⟨q, Hq⟩ : ∃ q, Hid (xs.length = q) := ⟨_, rfl⟩
    rw [Hq.out] at D ⊢
    go_wp2_with fail
    refine (l1Below_any g _ _ D.out.cur (by omega) (by omega)).mono ?_
    rintro e w3 ⟨y, rfl, hy0, hy1, hc3, k3⟩
    have D3 : Hid (DN w2 w3 g (.slice av q cv) xs) := D.out.but hg2 k3 hc3
    clear D hc3 k3
    obtain ⟨y, rfl⟩ := Int.eq_ofNat_of_zero_le hy0
    by_cases hlt : k < y
    · have hlt' : (k : Int) < (y : Int) := by omega
      have hk5 : k < 5 := by omega
      go_wp2_with fail
      refine (l1Below_any g _ _ D3.out.cur (by omega) (by omega)).mono ?_
      rintro e w4 ⟨x, rfl, hx0, hx1, hc4, k4⟩
      have D4 : Hid (DN w2 (w4.alloc (.cells #[.int .i64 x] 3)) g (.slice av q cv) xs) := (D3.out.but hg2 k4 hc4).alloc _
      clear D3 hc4 k4
      have hxl : Hid (xs.length ≤ 12) := by show _ ≤ _; have := hx.out; omega
      go_wp2_with (at_builtin; (refine wpList_pushF rfl _ _ 41 rfl w2.heap.size 3 (.int .i64 0) 1 8 ic Try.underlying41 (by kernel_rfl) rfl (by decide) ic_size ic_one _ xs rfl D4.out.own D4.out.kb.size x _ 1 (Blk.new _ _ _) rfl ?c1 ?c2 ?_))
      case c1 => have := hxl.out; unfold maxLen; omega
      case c2 => have := hxl.out; omega
      intro v6 w6 o6 g6 _
      have D6' := D4.out.grown hg2 o6 g6
      obtain ⟨a6, c6, e6, -, -⟩ := D6'.slice
      subst e6
      obtain ⟨ys, Hys⟩ : ∃ ys, Hid (xs ++ [x] = ys) := ⟨_, rfl⟩
      rw [Hys.out] at D6' ⊢
      have hyl : Hid (ys.length ≤ 2 * k + 1) := by show _ ≤ _; rw [← Hys.out]; have := hx.out; simp; omega
      obtain ⟨q6, Hq6⟩ : ∃ q, Hid (ys.length = q) := ⟨_, rfl⟩
      rw [Hq6.out] at D6' ⊢
      have D6 : Hid (DN w2 w6 g (.slice a6 q6 c6) ys) := D6'
      clear D4 D6' o6 g6
      by_cases hm0 : 0 < m
      · have hm0' : (0 : Int) < (m : Int) := by omega
        go_wp2_with fail
        refine (l1Once_any g _ _ D6.out.cur (by omega) (by omega)).mono ?_
        rintro e w7 ⟨bb, rfl, hc7, k7⟩
        have D7 : Hid (DN w2 w7 g (.slice a6 q6 c6) ys) := D6.out.but hg2 k7 hc7
        clear D6 hc7 k7
        cases bb
        · go_wp2_with fail
          refine (l1Below_any g _ _ D7.out.cur (by omega) (by omega)).mono ?_
          rintro e w8 ⟨z, rfl, hz0, hz1, hc8, k8⟩
          have D8' := D7.out.but hg2 k8 hc8
          clear D7 hc8 k8
          obtain ⟨j, rfl⟩ := Int.eq_ofNat_of_zero_le hz0
          have hj : j < m := by omega
          have hj' : (j : Int) < (m : Int) := by omega
          obtain ⟨t, ht⟩ := some_at (xs := ts) (k := j) (by rw [Hm.out]; exact hj)
          have r1 : w8.cell? ⟨b, j * 14, none⟩ = some (.int .i64 t.no) := (HT.out.but hg1 D8'.kb D8'.cur).no ht
          have D8 : Hid (DN w2 (w8.alloc (.cells #[.int .i64 t.no] 3)) g (.slice a6 q6 c6) ys) := D8'.alloc _
          clear D8' ht
          have hyl2 : Hid (ys.length ≤ 12) := by show _ ≤ _; have := hyl.out; omega
          go_wp2_with (at_builtin; (refine wpList_pushF rfl _ _ 41 rfl w2.heap.size 3 (.int .i64 0) 1 8 ic Try.underlying41 (by kernel_rfl) rfl (by decide) ic_size ic_one _ ys rfl D8.out.own D8.out.kb.size t.no _ 1 (Blk.new _ _ _) rfl ?c1 ?c2 ?_))
          case c1 => have := hyl2.out; unfold maxLen; omega
          case c2 => have := hyl2.out; omega
          intro v9 w9 o9 g9 _
          have D9 : Hid (DN w2 w9 g v9 (ys ++ [t.no])) := D8.out.grown hg2 o9 g9
          have hz9 : Hid ((ys ++ [t.no]).length ≤ 2 * (k + 1)) := by show _ ≤ _; have := hyl.out; simp; omega
          clear D8 o9 g9 r1
          go_wp2
          exact ⟨⟨k + 1, _, by omega, by go_num, D9, hz9⟩, by simp only [intOf]; omega⟩
        · have hz9 : Hid (ys.length ≤ 2 * (k + 1)) := by show _ ≤ _; have := hyl.out; omega
          go_wp2
          exact ⟨⟨k + 1, _, by omega, by go_num, D7, hz9⟩, by simp only [intOf]; omega⟩
      · have hd : decide (0 < m) = false := by simp; omega
        have hd' : decide ((0 : Int) < (m : Int)) = false := by simp; omega
        have hz9 : Hid (ys.length ≤ 2 * (k + 1)) := by show _ ≤ _; have := hyl.out; omega
        go_wp2
        exact ⟨⟨k + 1, _, by omega, by go_num, D6, hz9⟩, by simp only [intOf]; omega⟩
    · have hd : decide ((k : Int) < (y : Int)) = false := by simp; omega
      obtain ⟨a9, c9, e9, N9, l9⟩ := D3.out.slice
      rw [Hq.out] at e9
      simp only [Value.slice.injEq] at e9
      obtain ⟨rfl, -, rfl⟩ := e9
      have HN : Hid (Ns w3 av xs) := N9
      have TT := HT.out.but hg1 D3.out.kb D3.out.cur
      have HO : Hid (OnT w3 (some ⟨b, 0, none⟩) ts.length cp ts) := TT.on.1
      have HC : Hid (ts.length ≤ cp) := TT.on.2
      have HK : Hid (Keeps w w3) := TT.kb.keeps k1 hg
      have HX : Hid (xs.length ≤ cv) := l9
      clear TT N9 l9 D3
      go_wp2
      go_ret2
      exact ⟨b, cp, ts, av, cv, xs, by rw [Hm.out, Hq.out]; rfl, HO.out, HC.out, by rw [Hm.out]; exact hts, HN.out, HX.out, by have := hx.out; omega, HK.out⟩
end Go.Proofs.Ytojfjafaeabkfaa
namespace Go.Proofs.Ytojfjafaeabkfaa
open Go.RowKit
attribute [local go_sem] Keeps.refl Keeps.alloc Keeps.drew Keeps.drewN KeepsBut.refl KeepsBut.drew KeepsBut.alloc KeepsBut.drewN

theorem results_tmp4 {fn : Func} {t u v x : Tmp} (h : fn.results = #[.tmp t, .tmp u, .tmp v, .tmp x]) (tmps : Array Value) (P : Program) (w : World) :
    (results fn tmps).run P w = .ok (.tuple #[tmps.getD t undef, tmps.getD u undef, tmps.getD v undef, tmps.getD x undef]) w := by
  simp [results, h]

end Go.Proofs.Ytojfjafaeabkfaa
