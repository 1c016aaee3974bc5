/-
  Drawn tasks of a fixed priority: the contracts of the model's draws.
-/
import Derived.Test.YtdndgacaohmdnaaDrawDue
namespace Go.Proofs.Ytdndgacaohmdnaa
open Go.RowKit

set_option maxRecDepth 100000 in
set_option maxHeartbeats 4000000 in
theorem l5Draw_any (g : Nat) (w : World) (hc : Cur w g) :
    Calls Try.prog 46 #[.pointer (some ⟨g, 0, none⟩)] w fun e w' => ∃ t : Tsk, e = .returned (tk t) ∧ Cur w' g ∧ KeepsBut g w w' := by
  have hgl := hc.lt
  go_enter Try.func46, Try.ntmps46
  go_wp2_with fail
  have hc0 := hc.keeps ((Keeps.refl w).alloc (.cells (tc Tsk.zero) 25))
  have B0 := Blk.new w (tc Tsk.zero) 25
  have kb0 := (KeepsBut.refl g w).alloc (.cells (tc Tsk.zero) 25)
  refine (l3Draw_any g _ hc0).mono ?_
  rintro e w1 ⟨t, rfl, hc1, k1⟩
  have B1 := B0.but k1 (by omega)
  have kb1 := kb0.trans k1
  have hr1 := B1.lt
  obtain ⟨r, Hr⟩ : ∃ r, Hid (w.heap.size = r) := ⟨_, rfl⟩
  have hrr := Hr.out
  rw [Hr.out] at B1 ⊢
  have S : DR w (w1.alloc (.cells (tc t) 25)) g r w1.heap.size t := ⟨hc1.keeps ((Keeps.refl _).alloc _), kb1.alloc _, B1.alloc _, Blk.new _ _ _, by omega, by omega, by omega⟩
  clear B0 B1 kb0 kb1 hc0 hc1 k1 hc hrr hr1
  obtain ⟨s, Hs⟩ : ∃ s, Hid (w1.heap.size = s) := ⟨_, rfl⟩
  rw [Hs.out] at S
  have HW : Hid (DR w (w1.alloc (.cells (tc t) 25)) g r s t) := S
  clear S
  go_wp2
  simp only [Hs.out]
  go_loopw [4] (fun i wr => ∃ (k : Nat) (u : Tsk), k ≤ 4 ∧ i = .int .i64 k ∧ DR w wr g r s u) (fun i _ => 4 - (intOf i).toNat)
  case atStart => exact ⟨0, t, Nat.zero_le _, rfl, HW.out⟩
  case round =>
    obtain ⟨k, u, hk, rfl, S⟩ := hrel
    clear HW
    by_cases hlt : k < 4
    · have hlt' : (k : Int) < 4 := by omega
      cases hcl : (u.cls != 2)
      · obtain ⟨q1, q2, f1, f2⟩ := S.rules
        have HS : Hid (DR w wr g r s u) := S
        clear S
        go_wp2
        have T := HS.out.done
        change bodyPost _ _ _ _ _ (putT wr r u)
        generalize putT wr r u = X at T ⊢
        obtain ⟨T1, T2, T3⟩ := T
        exact bodyPost_ret (v := tk u) (by simp [results, Try.results46, go_sem, T1.cells]) rfl ⟨_, rfl, T2, T3⟩
      · obtain ⟨q1, q2, f1, f2⟩ := S.rules
        go_wp2_with fail
        refine (l3Draw_any g _ S.cur).mono ?_
        rintro e w3 ⟨v, rfl, hc3, k3⟩
        clear q1 q2 f1 f2
        have S := S.but k3 hc3
        clear hc3 k3
        obtain ⟨q1, q2, f1, f2⟩ := S.rules
        have HS : Hid (DR w w3 g r s u) := S
        clear S
        go_wp2
        exact ⟨⟨k + 1, v, by omega, by go_num, HS.out.put v⟩, by simp only [intOf]; omega⟩
    · have hlt' : decide ((k : Int) < 4) = false := by simp; omega
      obtain ⟨q1, q2, f1, f2⟩ := S.rules
      have HS : Hid (DR w wr g r s u) := S
      clear S
      go_wp2
      have T := HS.out.done
      change bodyPost _ _ _ _ _ (putT wr r u)
      generalize putT wr r u = X at T ⊢
      obtain ⟨T1, T2, T3⟩ := T
      exact bodyPost_ret (v := tk u) (by simp [results, Try.results46, go_sem, T1.cells]) rfl ⟨_, rfl, T2, T3⟩

set_option maxRecDepth 100000 in
/-- One of the ints of a list that is written out, inside a region that has drawn. -/
theorem l1PickInt_drew (p : Int → Prop) (g : Nat) (zs : List Int) (C : Array Value) (t : TypeId) (n cap B : Nat) (w : World) (hB : w.heap.size = B) (hc : Cur w g) (hn : zs.length = n) (h1 : 1 ≤ n) (h2 : n ≤ 256) (hC : C = (zs.map (Value.int .i64)).toArray) (hp : ∀ z ∈ zs, p z) :
    Calls Try.prog 94 #[.pointer (some ⟨g, 0, none⟩), .slice (some ⟨B, 0, none⟩) n cap] (w.alloc (.cells C t)).drew fun e w' => ∃ x : Int, e = .returned (.int .i64 x) ∧ p x ∧ Cur w' g ∧ KeepsBut g w w' := by
  have hl := hc.lt
  subst hC
  subst hn
  subst hB
  refine (l1PickInt_any p g w.heap.size 0 cap zs _ (hc.keeps ((Keeps.refl _).alloc _).drew) (by omega) h1 h2 ?_ hp).mono ?_
  · intro j hj
    simp [go_sem, hj]
  · rintro e w' ⟨x, rfl, hx, hc', k⟩
    exact ⟨x, rfl, hx, hc', (((KeepsBut.refl g w).alloc _).drew).trans k⟩

end Go.Proofs.Ytdndgacaohmdnaa
