/-
  A drawn task that may be wrong in one field: the contract of the model's l3Draw.
-/
import Derived.Test.YtdndgacaohmdnaaDrawTask
namespace Go.Proofs.Ytdndgacaohmdnaa
open Go.RowKit

theorem DR.no {w W : World} {g r s : Nat} {t : Tsk} (h : DR w W g r s t) (x : Int) : DR w (W.setCell ⟨s, 0, none⟩ (.int .i64 x)) g r s { t with no := x } := h.cell 0 (by decide) _ (by simp)
theorem DR.cpu {w W : World} {g r s : Nat} {t : Tsk} (h : DR w W g r s t) (x : Int) : DR w (W.setCell ⟨s, 2, none⟩ (.int .i64 x)) g r s { t with cpu := x } := h.cell 2 (by decide) _ (by simp)
theorem DR.cls {w W : World} {g r s : Nat} {t : Tsk} (h : DR w W g r s t) (x : Int) : DR w (W.setCell ⟨s, 1, none⟩ (.int .i64 x)) g r s { t with cls := x } := h.cell 1 (by decide) _ (by simp)
theorem DR.due {w W : World} {g r s : Nat} {t : Tsk} (h : DR w W g r s t) (x : Int) : DR w (W.setCell ⟨s, 8, none⟩ (.int .i64 x)) g r s { t with due := x } := h.cell 8 (by decide) _ (by simp)
theorem DR.v {w W : World} {g r s : Nat} {t : Tsk} (h : DR w W g r s t) (x : Int) : DR w (W.setCell ⟨s, 13, none⟩ (.int .i64 x)) g r s { t with v := x } := h.cell 13 (by decide) _ (by simp)
theorem DR.prio {w W : World} {g r s : Nat} {t : Tsk} (h : DR w W g r s t) (x : Int) : DR w (W.setCell ⟨s, 9, none⟩ (.int .i64 x)) g r s { t with prio := x } := h.cell 9 (by decide) _ (by simp)

set_option maxRecDepth 100000 in
set_option maxHeartbeats 8000000 in
theorem l3Draw_any (g : Nat) (w : World) (hc : Cur w g) :
    Calls Try.prog 86 #[.pointer (some ⟨g, 0, none⟩)] w fun e w' => ∃ t : Tsk, e = .returned (tk t) ∧ Cur w' g ∧ KeepsBut g w w' := by
  have hgl := hc.lt
  go_enter Try.func86, Try.ntmps86
  go_wp2_with fail
  have hc0 := hc.keeps ((Keeps.refl w).alloc (.cells (tc Tsk.zero) 25))
  have B0 := Blk.new w (tc Tsk.zero) 25
  have kb0 := (KeepsBut.refl g w).alloc (.cells (tc Tsk.zero) 25)
  refine (l3DrawRight_any g _ hc0).mono ?_
  rintro e w1 ⟨t, rfl, hc1, k1⟩
  have B1 := B0.but k1 (by omega)
  have kb1 := kb0.trans k1
  have hr1 := B1.lt
  obtain ⟨r, Hr⟩ : ∃ r, Hid (w.heap.size = r) := ⟨_, rfl⟩
  have hrr := Hr.out
  rw [Hr.out] at B1 ⊢
  have S : DR w (w1.alloc (.cells (tc t) 25)) g r w1.heap.size t := ⟨hc1.keeps ((Keeps.refl _).alloc _), kb1.alloc _, B1.alloc _, Blk.new _ _ _, by omega, by omega, by omega⟩
  clear B0 B1 kb0 kb1 hc0 hc1 k1 hc hrr hr1
  go_wp2_with fail
  change Calls _ _ _ (w1.alloc (.cells (tc t) 25)) _
  generalize w1.alloc (.cells (tc t) 25) = W at *
  generalize w1.heap.size = s at *
  refine (l1Below_any g _ _ S.cur (by omega) (by omega)).mono ?_
  rintro e w3 ⟨c, rfl, hx0, hx1, hc3, k3⟩
  have S := S.but k3 hc3
  clear hc3 k3
  go_upto_block 0 with fail
  go_cut [] (fun wx => ∃ t : Tsk, DR w wx g r s t)
  case first =>
    obtain rfl | rfl | rfl | rfl | rfl | rfl | rfl | rfl | hc8 : c = 0 ∨ c = 1 ∨ c = 2 ∨ c = 3 ∨ c = 4 ∨ c = 5 ∨ c = 6 ∨ c = 7 ∨ 8 ≤ c := by omega
    · go_wp2_with fail
      refine (l1PickInt_new (fun _ => True) g [0, 1000, 1001] _ _ 3 3 _ _ rfl S.cur rfl (by decide) (by decide) rfl (by simp)).mono ?_
      rintro e w4 ⟨x, rfl, -, hc4, k4⟩
      have S := S.but k4 hc4
      clear hc4 k4
      obtain ⟨q1, q2, f1, f2⟩ := S.rules
      have HS : Hid (DR w w4 g r s t) := S
      clear S
      go_wp2_with fail
      go_meet
      exact ⟨_, HS.out.no (x)⟩
    · go_wp2_with fail
      refine (l1PickInt_new (fun _ => True) g [-1, 3, 4] _ _ 3 3 _ _ rfl S.cur rfl (by decide) (by decide) rfl (by simp)).mono ?_
      rintro e w4 ⟨x, rfl, -, hc4, k4⟩
      have S := S.but k4 hc4
      clear hc4 k4
      obtain ⟨q1, q2, f1, f2⟩ := S.rules
      have HS : Hid (DR w w4 g r s t) := S
      clear S
      go_wp2_with fail
      go_meet
      exact ⟨_, HS.out.cpu (x)⟩
    · go_wp2_with fail
      refine (l1Below_any g _ _ S.cur (by omega) (by omega)).mono ?_
      rintro e w4 ⟨x, rfl, hy0, hy1, hc4, k4⟩
      have S := S.but k4 hc4
      clear hc4 k4
      obtain ⟨q1, q2, f1, f2⟩ := S.rules
      have HS : Hid (DR w w4 g r s t) := S
      clear S
      go_wp2_with fail
      go_meet
      exact ⟨_, HS.out.st (x)⟩
    · go_wp2_with fail
      refine (l1Below_any g _ _ S.cur (by omega) (by omega)).mono ?_
      rintro e w4 ⟨x, rfl, hy0, hy1, hc4, k4⟩
      have S := S.but k4 hc4
      clear hc4 k4
      obtain ⟨q1, q2, f1, f2⟩ := S.rules
      have HS : Hid (DR w w4 g r s t) := S
      clear S
      go_wp2_with fail
      go_meet
      exact ⟨_, HS.out.cls (x)⟩
    · go_wp2_with fail
      refine (l1Below_any g _ _ S.cur (by omega) (by omega)).mono ?_
      rintro e w4 ⟨x, rfl, hy0, hy1, hc4, k4⟩
      have S := S.but k4 hc4
      clear hc4 k4
      obtain ⟨q1, q2, f1, f2⟩ := S.rules
      have HS : Hid (DR w w4 g r s t) := S
      clear S
      go_wp2_with fail
      go_meet
      exact ⟨_, HS.out.left (x - 2)⟩
    · go_wp2_with fail
      refine (l1PickInt_new (fun _ => True) g [-1, 5, 100040, 100041] _ _ 4 4 _ _ rfl S.cur rfl (by decide) (by decide) rfl (by simp)).mono ?_
      rintro e w4 ⟨x, rfl, -, hc4, k4⟩
      have S := S.but k4 hc4
      clear hc4 k4
      obtain ⟨q1, q2, f1, f2⟩ := S.rules
      have HS : Hid (DR w w4 g r s t) := S
      clear S
      go_wp2_with fail
      go_meet
      exact ⟨_, HS.out.due (x)⟩
    · go_wp2_with fail
      refine (l1PickInt_new (fun _ => True) g [-1, 5, 100000000, 100000001, 99999990] _ _ 5 5 _ _ rfl S.cur rfl (by decide) (by decide) rfl (by simp)).mono ?_
      rintro e w4 ⟨x, rfl, -, hc4, k4⟩
      have S := S.but k4 hc4
      clear hc4 k4
      obtain ⟨q1, q2, f1, f2⟩ := S.rules
      have HS : Hid (DR w w4 g r s t) := S
      clear S
      go_wp2_with fail
      go_meet
      exact ⟨_, HS.out.v (x)⟩
    · go_wp2_with fail
      refine (l1Below_any g _ _ S.cur (by omega) (by omega)).mono ?_
      rintro e w4 ⟨x, rfl, hy0, hy1, hc4, k4⟩
      have S := S.but k4 hc4
      clear hc4 k4
      obtain ⟨q1, q2, f1, f2⟩ := S.rules
      have HS : Hid (DR w w4 g r s t) := S
      clear S
      go_wp2_with fail
      go_meet
      exact ⟨_, HS.out.prio (x)⟩
    · have n0 : (c == 0) = false := by simp; omega
      have n1 : (c == 1) = false := by simp; omega
      have n2 : (c == 2) = false := by simp; omega
      have n3 : (c == 3) = false := by simp; omega
      have n4 : (c == 4) = false := by simp; omega
      have n5 : (c == 5) = false := by simp; omega
      have n6 : (c == 6) = false := by simp; omega
      have n7 : (c == 7) = false := by simp; omega
      go_wp2_with fail
      go_meet
      exact ⟨_, S⟩
  case rest =>
  obtain ⟨u, S⟩ := hcut
  generalize wc = W9 at *
  obtain ⟨q1, q2, f1, f2⟩ := S.rules
  have HS : Hid (DR w W9 g r s u) := S
  clear S
  go_wp2
  have T := HS.out.done
  change bodyPost _ _ _ _ _ (putT W9 r u)
  generalize putT W9 r u = X at T ⊢
  obtain ⟨T1, T2, T3⟩ := T
  exact bodyPost_ret (v := tk u) (by simp [results, Try.results86, go_sem, T1.cells]) rfl ⟨_, rfl, T2, T3⟩
end Go.Proofs.Ytdndgacaohmdnaa
