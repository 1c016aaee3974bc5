/-
  Drawn locks: the contract of the model's l7DrawRight.
-/
import Derived.Test.YtglemedcnapneaaLockLaws2
import Derived.Test.YtglemedcnapneaaLockPure3
import Derived.Test.YtglemedcnapneaaCur
import Derived.Test.YtglemedcnapneaaGrow
namespace Go.Proofs.Ytglemedcnapneaa
open Go.RowKit
attribute [local go_sem] Keeps.refl Keeps.alloc Keeps.drew Keeps.drewN

/-- Drawn locks, beside the cursor. -/
structure DK (w wr : World) (g : Nat) (v : Value) (ls : List Lk) : Prop where
  mine : ∃ vs, Mine wr w.heap.size wr.heap.size v vs ls
  cur : Cur wr g
  kb : KeepsBut g w wr
theorem DK.but {w wr wr' : World} {g : Nat} {v : Value} {ls : List Lk} (h : DK w wr g v ls) (hg : g < w.heap.size) (k : KeepsBut g wr wr') (hc : Cur wr' g) : DK w wr' g v ls := by
  obtain ⟨vs, M⟩ := h.mine
  exact ⟨⟨vs, (M.same fun b h1 _ h3 => k.block b h3 (by omega)).widen (Nat.le_refl _) k.size⟩, hc, h.kb.trans k⟩
theorem DK.keeps {w wr wr' : World} {g : Nat} {v : Value} {ls : List Lk} (h : DK w wr g v ls) (hg : g < w.heap.size) (k : Keeps wr wr') : DK w wr' g v ls := h.but hg (.of k) (h.cur.keeps k)
theorem sizeN_zero (n : Nat) : sizeN (List.replicate n (⟨0, []⟩ : Lk)) = n := by
  have : sumW (List.replicate n (⟨0, []⟩ : Lk)) = 0 := by
    induction n with
    | zero => rfl
    | succ n ih => rw [List.replicate_succ]; simp only [sumW, ih]; rfl
  unfold sizeN
  rw [this]
  simp
set_option maxRecDepth 100000 in
/-- What make lays. -/
theorem run_make_locks (n : Nat) (hn : n ≤ 1048576) (z : Int) (hz : z = (n : Int)) : ∀ w : World, (Instr.makeSlice 25 (.int .i64 z) (.int .i64 z)).run Try.prog w = .ok (.slice (some ⟨w.heap.size, 0, none⟩) n n) (w.alloc (.cells (madeCells #[.int .i64 0, .slice none 0 0] (n * 2)) 47)) := by
  subst hz
  have hmk := run_make_zero (P := Try.prog) 25 47 (.agg #[.int .i64 0, .slice none 0 0]) 2 32 Try.underlying25 (by kernel_rfl) n (by omega) (by omega)
  simp only [Value.cells] at hmk
  exact hmk
theorem DK.made {w wr : World} {g : Nat} (hc : Cur wr g) (k : KeepsBut g w wr) (n : Nat) (hn : n ≤ 1048576) : DK w (wr.alloc (.cells (madeCells #[.int .i64 0, .slice none 0 0] (n * 2)) 47)) g (.slice (some ⟨wr.heap.size, 0, none⟩) n n) (List.replicate n ⟨0, []⟩) :=
  ⟨⟨_, (Mine.zero wr n (by unfold maxLen; omega)).widen k.size (by simp)⟩, hc.keeps ((Keeps.refl _).alloc _), k.alloc _⟩

set_option maxRecDepth 100000 in
set_option maxHeartbeats 8000000 in
theorem l7DrawRight_any (g : Nat) (w : World) (hc : Cur w g) :
    Calls Try.prog 71 #[.pointer (some ⟨g, 0, none⟩)] w fun e w' => ∃ (v : Value) (ls : List Lk), e = .returned v ∧ DK w w' g v ls ∧ 1 ≤ ls.length ∧ ls.length ≤ 4 ∧ sizeN ls ≤ 16 := by
  have hgl := hc.lt
  go_enter Try.func71, Try.ntmps71
  go_wp2_with fail
  refine (l1Below_any g _ _ hc (by omega) (by omega)).mono ?_
  rintro e w1 ⟨m, rfl, hm0, hm1, hc1, k1⟩
  obtain ⟨n, Hn⟩ : ∃ n : Nat, Hid (1 + m = (n : Int)) := ⟨(1 + m).toNat, by show _ = _; omega⟩
  have hn1 : 1 ≤ n := by have := Hn.out; omega
  have hn4 : n ≤ 4 := by have := Hn.out; omega
  have hmk := run_make_locks n (by omega) (1 + m) Hn.out
  have D0 : Hid (DK w (w1.alloc (.cells (madeCells #[.int .i64 0, .slice none 0 0] (n * 2)) 47)) g (.slice (some ⟨w1.heap.size, 0, none⟩) n n) (List.replicate n ⟨0, []⟩)) := DK.made hc1 k1 n (by omega)
  clear k1 hc hc1
  go_wp2_with fail
  clear hmk
  generalize w1.alloc (.cells (madeCells #[.int .i64 0, .slice none 0 0] (n * 2)) 47) = W at *
  generalize hv0 : Value.slice (some ⟨w1.heap.size, 0, none⟩) n n = v0 at *
  clear hv0
  refine (l1Below_any g _ _ D0.out.cur (by omega) (by omega)).mono ?_
  rintro e w2 ⟨q, rfl, hq0, hq1, hc2, k2⟩
  have D2 : Hid (DK w w2 g v0 (List.replicate n ⟨0, []⟩)) := D0.out.but hgl k2 hc2
  clear D0 k2 hc2
  obtain ⟨r, rfl⟩ := Int.eq_ofNat_of_zero_le hq0
  have hr : r < 12 := by omega
  go_wp2
  go_loopw [3, 5] (fun v i wr => ∃ (k : Nat) (ls : List Lk), k ≤ r ∧ i = .int .i64 k ∧ Hid (DK w wr g v ls) ∧ Hid (Right ls) ∧ Hid (ls.length = n) ∧ Hid (sizeN ls ≤ n + k)) (fun _ i _ => r - (intOf i).toNat)
  case atStart => exact ⟨0, _, Nat.zero_le _, rfl, D2, right_zero (by omega), by show _ = _; simp, by show _ ≤ _; rw [sizeN_zero]; omega⟩
  case round =>
    obtain ⟨k, ls, hk, rfl, D, R, hl, hsz⟩ := hrel
    clear D2
    by_cases hlt : k < r
    · have hlt' : (k : Int) < (r : Int) := by omega
      obtain ⟨vs, M⟩ := D.out.mine
      obtain ⟨a, cap, rfl, -, -, -⟩ := M.args
      clear M vs
      rw [hl.out] at D ⊢
      go_wp2_with fail
      refine (l1Below_any g _ _ D.out.cur (by omega) (by omega)).mono ?_
      rintro e w3 ⟨x, rfl, hx0, hx1, hc3, k3⟩
      have D3 : Hid (DK w w3 g (.slice a n cap) ls) := D.out.but hgl k3 hc3
      clear D hc3 k3
      go_wp2_with fail
      refine (l1Below_any g _ _ D3.out.cur (by omega) (by omega)).mono ?_
      rintro e w4 ⟨y, rfl, hy0, hy1, hc4, k4⟩
      have D4 : Hid (DK w w4 g (.slice a n cap) ls) := D3.out.but hgl k4 hc4
      clear D3 hc4 k4
      have L4 : Hid (Lks true w4 a ls) := by
        obtain ⟨vs, M⟩ := D4.out.mine
        obtain ⟨a', cap', e, L, -, -⟩ := M.args
        simp only [Value.slice.injEq] at e
        obtain ⟨rfl, -, -⟩ := e
        exact L
      go_wp2_with fail
      have SA := specLockAsk_any a cap ls x (1 + y) w4 (by have := hsz.out; omega) L4.out
      rw [hl.out] at SA
      refine SA.mono ?_
      rintro e w5 ⟨v5, vs5, rfl, M5, k5⟩
      have hR := ask_right R.out x (1 + y)
      have D5 : Hid (DK w w5 g v5 (askL ls x (1 + y))) := ⟨⟨vs5, M5.widen (D4.out.kb.size) (Nat.le_refl _)⟩, D4.out.cur.keeps k5, D4.out.kb.trans (.of k5)⟩
      have hs5 : Hid (sizeN (askL ls x (1 + y)) ≤ n + (k + 1)) := by show _ ≤ _; have := askL_size ls x (1 + y); have := hsz.out; omega
      have hl5 : Hid ((askL ls x (1 + y)).length = n) := by show _ = _; rw [hR.2]; exact hl.out
      have R5 : Hid (Right (askL ls x (1 + y))) := hR.1
      clear SA M5 k5 hR D4 L4
      go_wp2
      exact ⟨⟨k + 1, _, by omega, by go_num, D5, R5, hl5, hs5⟩, by simp only [intOf]; omega⟩
    · go_wp2
      go_ret
      exact ⟨_, ls, rfl, D.out, by rw [hl.out]; exact hn1, by rw [hl.out]; exact hn4, by have := hsz.out; omega⟩
end Go.Proofs.Ytglemedcnapneaa
