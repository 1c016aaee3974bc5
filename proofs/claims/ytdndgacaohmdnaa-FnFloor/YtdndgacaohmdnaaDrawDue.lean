/-
  Drawn tasks with deadlines: the contracts of the model's draws.
-/
import Derived.Test.YtdndgacaohmdnaaDrawTask2
import Derived.Test.YtdndgacaohmdnaaPutC
namespace Go.Proofs.Ytdndgacaohmdnaa
open Go.RowKit

set_option maxRecDepth 100000 in
set_option maxHeartbeats 4000000 in
theorem l4Draw_any (g : Nat) (w : World) (hc : Cur w g) :
    Calls Try.prog 45 #[.pointer (some ⟨g, 0, none⟩)] w fun e w' => ∃ t : Tsk, e = .returned (tk t) ∧ Cur w' g ∧ KeepsBut g w w' := by
  have hgl := hc.lt
  go_enter Try.func45, Try.ntmps45
  go_wp2_with fail
  have hc0 := hc.keeps ((Keeps.refl w).alloc (.cells (tc Tsk.zero) 25))
  have B0 := Blk.new w (tc Tsk.zero) 25
  have kb0 := (KeepsBut.refl g w).alloc (.cells (tc Tsk.zero) 25)
  refine (l3Draw_any g _ hc0).mono ?_
  rintro e w1 ⟨t, rfl, hc1, k1⟩
  have B1 := B0.but k1 (by omega)
  have kb1 := kb0.trans k1
  have hr1 := B1.lt
  obtain ⟨r, Hr⟩ : ∃ r, Hid (w.heap.size = r) := ⟨_, rfl⟩
  have hrr := Hr.out
  rw [Hr.out] at B1 ⊢
  have S : DR w (w1.alloc (.cells (tc t) 25)) g r w1.heap.size t := ⟨hc1.keeps ((Keeps.refl _).alloc _), kb1.alloc _, B1.alloc _, Blk.new _ _ _, by omega, by omega, by omega⟩
  clear B0 B1 kb0 kb1 hc0 hc1 k1 hc hrr hr1
  obtain ⟨s, Hs⟩ : ∃ s, Hid (w1.heap.size = s) := ⟨_, rfl⟩
  rw [Hs.out] at S
  have HW : Hid (DR w (w1.alloc (.cells (tc t) 25)) g r s t) := S
  clear S
  go_wp2
  simp only [Hs.out]
  go_loopw [4] (fun i wr => ∃ (k : Nat) (u : Tsk), k ≤ 4 ∧ i = .int .i64 k ∧ DR w wr g r s u) (fun i _ => 4 - (intOf i).toNat)
  case atStart => exact ⟨0, t, Nat.zero_le _, rfl, HW.out⟩
  case round =>
    obtain ⟨k, u, hk, rfl, S⟩ := hrel
    clear HW
    by_cases hlt : k < 4
    · have hlt' : (k : Int) < 4 := by omega
      cases hcl : (u.cls != 1)
      · obtain ⟨q1, q2, f1, f2⟩ := S.rules
        have HS : Hid (DR w wr g r s u) := S
        clear S
        go_wp2
        have T := HS.out.done
        change bodyPost _ _ _ _ _ (putT wr r u)
        generalize putT wr r u = X at T ⊢
        obtain ⟨T1, T2, T3⟩ := T
        exact bodyPost_ret (v := tk u) (by simp [results, Try.results45, go_sem, T1.cells]) rfl ⟨_, rfl, T2, T3⟩
      · obtain ⟨q1, q2, f1, f2⟩ := S.rules
        go_wp2_with fail
        refine (l3Draw_any g _ S.cur).mono ?_
        rintro e w3 ⟨v, rfl, hc3, k3⟩
        clear q1 q2 f1 f2
        have S := S.but k3 hc3
        clear hc3 k3
        obtain ⟨q1, q2, f1, f2⟩ := S.rules
        have HS : Hid (DR w w3 g r s u) := S
        clear S
        go_wp2
        exact ⟨⟨k + 1, v, by omega, by go_num, HS.out.put v⟩, by simp only [intOf]; omega⟩
    · have hlt' : decide ((k : Int) < 4) = false := by simp; omega
      obtain ⟨q1, q2, f1, f2⟩ := S.rules
      have HS : Hid (DR w wr g r s u) := S
      clear S
      go_wp2
      have T := HS.out.done
      change bodyPost _ _ _ _ _ (putT wr r u)
      generalize putT wr r u = X at T ⊢
      obtain ⟨T1, T2, T3⟩ := T
      exact bodyPost_ret (v := tk u) (by simp [results, Try.results45, go_sem, T1.cells]) rfl ⟨_, rfl, T2, T3⟩

/-- Nothing but block g has turned, and block b holds C. -/
structure HasB (g : Nat) (w : World) (b : Nat) (C : Array Value) (w' : World) : Prop where
  kb : KeepsBut g w w'
  box : Blk w' b C
theorem HasB.but {g : Nat} {w : World} {b : Nat} {C : Array Value} {w1 w2 : World} (h : HasB g w b C w1) (k : KeepsBut g w1 w2) (hb : b ≠ g) : HasB g w b C w2 := ⟨h.kb.trans k, h.box.but k hb⟩
theorem KeepsBut.putC {g : Nat} {a : World} {b : Nat} (hp : a.heap.size ≤ b) : ∀ (L : List Value) {w : World} (k : Nat), KeepsBut g a w → KeepsBut g a (Go.Proofs.Ytdndgacaohmdnaa.putC w b k L)
  | [], _, _, h => h
  | v :: r, _, k, h => KeepsBut.putC hp r (k + 1) (h.setNew (p := ⟨b, k, none⟩) hp v)
theorem HasB.put {g : Nat} {w : World} {b : Nat} {C : Array Value} {w1 : World} (h : HasB g w b C w1) {r : Nat} (hr : w.heap.size ≤ r) (hb : r ≠ b) (k : Nat) (L : List Value) : HasB g w b C (putC w1 r k L) := ⟨KeepsBut.putC hr L k h.kb, Blk.farC hb L k h.box⟩

end Go.Proofs.Ytdndgacaohmdnaa
