/-
  Drawn tasks that share fairly: the contracts of the model's draws.
-/
import Derived.Test.YtdndgacaohmdnaaDrawDue
namespace Go.Proofs.Ytdndgacaohmdnaa
open Go.RowKit

set_option maxRecDepth 100000 in
set_option maxHeartbeats 4000000 in
theorem l6Draw_any (g : Nat) (w : World) (hc : Cur w g) :
    Calls Try.prog 47 #[.pointer (some ⟨g, 0, none⟩)] w fun e w' => ∃ t : Tsk, e = .returned (tk t) ∧ Cur w' g ∧ KeepsBut g w w' := by
  have hgl := hc.lt
  go_enter Try.func47, Try.ntmps47
  go_wp2_with fail
  have hc0 := hc.keeps ((Keeps.refl w).alloc (.cells (tc Tsk.zero) 25))
  have B0 := Blk.new w (tc Tsk.zero) 25
  have kb0 := (KeepsBut.refl g w).alloc (.cells (tc Tsk.zero) 25)
  refine (l3Draw_any g _ hc0).mono ?_
  rintro e w1 ⟨t, rfl, hc1, k1⟩
  have B1 := B0.but k1 (by omega)
  have kb1 := kb0.trans k1
  have hr1 := B1.lt
  obtain ⟨r, Hr⟩ : ∃ r, Hid (w.heap.size = r) := ⟨_, rfl⟩
  have hrr := Hr.out
  rw [Hr.out] at B1 ⊢
  have S : DR w (w1.alloc (.cells (tc t) 25)) g r w1.heap.size t := ⟨hc1.keeps ((Keeps.refl _).alloc _), kb1.alloc _, B1.alloc _, Blk.new _ _ _, by omega, by omega, by omega⟩
  clear B0 B1 kb0 kb1 hc0 hc1 k1 hc hrr hr1
  obtain ⟨s, Hs⟩ : ∃ s, Hid (w1.heap.size = s) := ⟨_, rfl⟩
  rw [Hs.out] at S
  have HW : Hid (DR w (w1.alloc (.cells (tc t) 25)) g r s t) := S
  clear S
  go_wp2
  simp only [Hs.out]
  go_loopw [4] (fun i wr => ∃ (k : Nat) (u : Tsk), k ≤ 4 ∧ i = .int .i64 k ∧ DR w wr g r s u) (fun i _ => 4 - (intOf i).toNat)
  case atStart => exact ⟨0, t, Nat.zero_le _, rfl, HW.out⟩
  case round =>
    obtain ⟨k, u, hk, rfl, S⟩ := hrel
    clear HW
    by_cases hlt : k < 4
    · have hlt' : (k : Int) < 4 := by omega
      cases hcl : (u.cls != 3)
      · obtain ⟨q1, q2, f1, f2⟩ := S.rules
        have HS : Hid (DR w wr g r s u) := S
        clear S
        go_wp2
        have T := HS.out.done
        change bodyPost _ _ _ _ _ (putT wr r u)
        generalize putT wr r u = X at T ⊢
        obtain ⟨T1, T2, T3⟩ := T
        exact bodyPost_ret (v := tk u) (by simp [results, Try.results47, go_sem, T1.cells]) rfl ⟨_, rfl, T2, T3⟩
      · obtain ⟨q1, q2, f1, f2⟩ := S.rules
        go_wp2_with fail
        refine (l3Draw_any g _ S.cur).mono ?_
        rintro e w3 ⟨v, rfl, hc3, k3⟩
        clear q1 q2 f1 f2
        have S := S.but k3 hc3
        clear hc3 k3
        obtain ⟨q1, q2, f1, f2⟩ := S.rules
        have HS : Hid (DR w w3 g r s u) := S
        clear S
        go_wp2
        exact ⟨⟨k + 1, v, by omega, by go_num, HS.out.put v⟩, by simp only [intOf]; omega⟩
    · have hlt' : decide ((k : Int) < 4) = false := by simp; omega
      obtain ⟨q1, q2, f1, f2⟩ := S.rules
      have HS : Hid (DR w wr g r s u) := S
      clear S
      go_wp2
      have T := HS.out.done
      change bodyPost _ _ _ _ _ (putT wr r u)
      generalize putT wr r u = X at T ⊢
      obtain ⟨T1, T2, T3⟩ := T
      exact bodyPost_ret (v := tk u) (by simp [results, Try.results47, go_sem, T1.cells]) rfl ⟨_, rfl, T2, T3⟩

set_option maxRecDepth 100000 in
theorem l6DrawFloor_any (g : Nat) (w : World) (hc : Cur w g) :
    Calls Try.prog 69 #[.pointer (some ⟨g, 0, none⟩)] w fun e w' => ∃ x : Int, e = .returned (.int .i64 x) ∧ (-1 ≤ x ∧ x ≤ 100000001) ∧ Cur w' g ∧ KeepsBut g w w' := by
  go_enter Try.func69, Try.ntmps69
  go_wp2_with fail
  refine (l1Once_any g _ _ hc (by omega) (by omega)).mono ?_
  rintro e w1 ⟨b, rfl, hc1, k1⟩
  cases b
  · go_wp2_with fail
    refine (l1Below_any g _ _ hc1 (by omega) (by omega)).mono ?_
    rintro e w2 ⟨x, rfl, hx0, hx1, hc2, k2⟩
    go_wp2
    go_ret
    exact ⟨_, rfl, by omega, hc2, k1.trans k2⟩
  · go_wp2_with fail
    refine (l1PickInt_new (fun z => -1 ≤ z ∧ z ≤ 100000001) g [-1, 100000000, 100000001] _ _ 3 3 _ _ rfl hc1 rfl (by decide) (by decide) rfl (by simp)).mono ?_
    rintro e w2 ⟨x, rfl, hx, hc2, k2⟩
    go_wp2
    go_ret
    exact ⟨_, rfl, hx, hc2, k1.trans k2⟩

set_option maxRecDepth 100000 in
set_option maxHeartbeats 2000000 in
theorem drawFairWake_any (a : Option Addr) (n cap : Nat) (w : World) (hn : n ≤ 1048576) (hb : ∀ g, w.heap.size ≤ g → Bytes g w a n) :
    Calls Try.prog 24 #[.slice a n cap] w fun e w' => ∃ (t : Tsk) (x : Int), e = .returned (.tuple #[tk t, .int .i64 x]) ∧ (-1 ≤ x ∧ x ≤ 100000001) ∧ Keeps w w' := by
  go_enter Try.func24, Try.ntmps24
  go_wp2_with fail
  have kW : Keeps w (w.alloc (.cells (tc Tsk.zero) 25)) := (Keeps.refl w).alloc _
  have B0 := Blk.new w (tc Tsk.zero) 25
  refine (l1New_any a n cap _ hn (fun g hg => (hb g (by have := kW.size; omega)).but (.of kW))).mono ?_
  rintro e w1 ⟨g, rfl, hg, hc1, k1⟩
  clear hb
  have K1 := kW.trans k1
  have B1 := B0.keeps k1
  have hwg : w.heap.size < g := by simp at hg; omega
  clear kW k1 B0 hg
  go_wp2_with fail
  refine (l6Draw_any g _ hc1).mono ?_
  rintro e w2 ⟨t, rfl, hc2, k2⟩
  have B2 := B1.but k2 (by omega)
  have K2 := k2.keeps K1 (by omega)
  have hgl := hc2.lt
  go_wp2_with fail
  have H0 : HasB g w w2.heap.size (tc t) (w2.alloc (.cells (tc t) 25)) := ⟨.of (K2.alloc _), Blk.new _ _ _⟩
  have R0 : Blk (w2.alloc (.cells (tc t) 25)) w.heap.size (tc Tsk.zero) := B2.alloc _
  have hc3 := hc2.keeps ((Keeps.refl w2).alloc (.cells (tc t) 25))
  have K3 : Keeps w (w2.alloc (.cells (tc t) 25)) := K2.alloc _
  have hsg : w2.heap.size ≠ g := by omega
  have hrs : w.heap.size ≠ w2.heap.size := by have := B2.lt; omega
  clear B1 B2 K1 K2 k2 hc1 hc2
  generalize w2.alloc (.cells (tc t) 25) = W at *
  generalize w2.heap.size = s at *
  have r1 : ∀ w', HasB g w s (tc t) w' → ∀ k, w'.cell? ⟨s, k, none⟩ = (tc t)[k]? := fun w' h => h.box.cells
  have hc4 := hc3.keeps (Keeps.refl W).drew
  refine wp_region_held_drew (S := (fun w' => HasB g w s (tc t) w')) (by kernel_rfl) ?_ (fun hHeld => ?_)
  · exact H0.but (.of (Keeps.refl _).drew) hsg
  refine wpAnyH_take (i := 0) (v := ?_) (by simp only [List.getElem?_toArray, List.getElem?_cons_zero]; rfl) (by kernel_rfl) (by kernel_rfl) (by kernel_rfl) (by exact fun _ _ _ h => h) (Or.inl ⟨by rfl, ?_⟩) (by assumption) ?_
  rotate_left
  · (intro w hSw; (try dsimp only at hSw); go_simp; try (with_reducible rfl))
  try simp only [Act.put, List.setIfInBounds_toArray, List.set_cons_zero, List.set_cons_succ]
  refine wpAnyH_take (i := 1) (v := ?_) (by simp only [List.getElem?_toArray, List.getElem?_cons_succ, List.getElem?_cons_zero]; rfl) (by kernel_rfl) (by kernel_rfl) (by kernel_rfl) (by exact fun _ _ _ h => h) (Or.inl ⟨by rfl, ?_⟩) (by assumption) ?_
  rotate_left
  · (intro w hSw; (try dsimp only at hSw); go_simp; try (with_reducible rfl))
  try simp only [Act.put, List.setIfInBounds_toArray, List.set_cons_zero, List.set_cons_succ]
  refine wpAnyH_ready (rs := [2]) (by kernel_rfl) (by simp) ?_
  refine AllReadyH.cons (by simp only [List.getElem?_toArray, List.getElem?_cons_succ, List.getElem?_cons_zero]; rfl) (fun K hK => ?_) AllReadyH.nil
  go_simp
  first
    | (go_at_call 69; refine (l6DrawFloor_any g _ hc4).mono ?_; rintro e w5 ⟨x, rfl, hx, hc5, k5⟩)
  try go_wp2_with fail
  refine hK.out _ _ ?_ (fun hHeld => ?_)
  · exact hHeld.but k5 hsg
  clear hK K
  try simp only [Act.put, List.setIfInBounds_toArray, List.set_cons_zero, List.set_cons_succ]
  refine wpAnyH_ready (rs := [3]) (by kernel_rfl) (by simp) ?_
  refine AllReadyH.cons (by simp only [List.getElem?_toArray, List.getElem?_cons_succ, List.getElem?_cons_zero]; rfl) (fun K hK => ?_) AllReadyH.nil
  have HB := R0.but ((KeepsBut.of (Keeps.refl W).drew).trans k5) (by omega); have HD : Hid (Blk w5 w.heap.size (tc Tsk.zero)) := HB; obtain ⟨_, q1, q2⟩ := HB
  go_simp
  try go_wp2_with fail
  refine hK.out _ _ ?_ (fun hHeld => ?_)
  · exact hHeld.put (r := w.heap.size) (by omega) hrs 0 (tc t).toList
  clear hK K
  try simp only [Act.put, List.setIfInBounds_toArray, List.set_cons_zero, List.set_cons_succ]
  refine wpAnyH_take (i := 4) (v := ?_) (by simp only [List.getElem?_toArray, List.getElem?_cons_succ, List.getElem?_cons_zero]; rfl) (by kernel_rfl) (by kernel_rfl) (by kernel_rfl) (by exact fun _ _ _ h => h) (Or.inl ⟨by rfl, ?_⟩) (by assumption) ?_
  rotate_left
  · (intro w hSw; (try dsimp only at hSw); go_simp; try (with_reducible rfl))
  try simp only [Act.put, List.setIfInBounds_toArray, List.set_cons_zero, List.set_cons_succ]
  refine wpAnyH_done (by kernel_rfl) ?_ _
  go_wp2
  have D := HD.out.putC (tc t).toList rfl
  have K := Keeps.putC (b := w.heap.size) (Nat.le_refl _) (tc t).toList 0 (k5.keeps K3.drew (by omega))
  change bodyPost _ _ _ _ _ (putC w5 w.heap.size 0 (tc t).toList)
  generalize putC w5 w.heap.size 0 (tc t).toList = X at D K ⊢
  exact bodyPost_ret (v := .tuple #[tk t, .int .i64 x]) (by simp [results, Try.results24, go_sem, D.cells]) rfl ⟨t, x, rfl, hx, K⟩

set_option maxRecDepth 100000 in
set_option maxHeartbeats 2000000 in
theorem drawFairMove_any (a : Option Addr) (n cap : Nat) (w : World) (hn : n ≤ 1048576) (hb : ∀ g, w.heap.size ≤ g → Bytes g w a n) :
    Calls Try.prog 36 #[.slice a n cap] w fun e w' => ∃ (t : Tsk) (c f x : Int), e = .returned (.tuple #[tk t, .int .i64 c, .int .i64 f, .int .i64 x]) ∧ (-1 ≤ c ∧ c ≤ 4) ∧ (-1 ≤ f ∧ f ≤ 100000001) ∧ (-1 ≤ x ∧ x ≤ 100000001) ∧ Keeps w w' := by
  go_enter Try.func36, Try.ntmps36
  go_wp2_with fail
  have kW : Keeps w (w.alloc (.cells (tc Tsk.zero) 25)) := (Keeps.refl w).alloc _
  have B0 := Blk.new w (tc Tsk.zero) 25
  refine (l1New_any a n cap _ hn (fun g hg => (hb g (by have := kW.size; omega)).but (.of kW))).mono ?_
  rintro e w1 ⟨g, rfl, hg, hc1, k1⟩
  clear hb
  have K1 := kW.trans k1
  have B1 := B0.keeps k1
  have hwg : w.heap.size < g := by simp at hg; omega
  clear kW k1 B0 hg
  go_wp2_with fail
  refine (l6Draw_any g _ hc1).mono ?_
  rintro e w2 ⟨t, rfl, hc2, k2⟩
  have B2 := B1.but k2 (by omega)
  have K2 := k2.keeps K1 (by omega)
  have hgl := hc2.lt
  go_wp2_with fail
  have T0 : Blk (w2.alloc (.cells (tc t) 25)) w2.heap.size (tc t) := Blk.new _ _ _
  have R0 : Blk (w2.alloc (.cells (tc t) 25)) w.heap.size (tc Tsk.zero) := B2.alloc _
  have hc3 := hc2.keeps ((Keeps.refl w2).alloc (.cells (tc t) 25))
  have K3 : Keeps w (w2.alloc (.cells (tc t) 25)) := K2.alloc _
  have hsg : w2.heap.size ≠ g := by omega
  have hrs : w.heap.size ≠ w2.heap.size := by have := B2.lt; omega
  clear B1 B2 K1 K2 k2 hc1 hc2
  generalize w2.alloc (.cells (tc t) 25) = W at *
  generalize w2.heap.size = s at *
  refine (l1Below_any g _ _ hc3 (by omega) (by omega)).mono ?_
  rintro e w3 ⟨c, rfl, c0, c1, hc4, k3⟩
  have e1 : IntKind.i64.wrap (c - 1) = c - 1 := Go.IntWalk.i64_in _ (by omega)
  have T1 := T0.but k3 hsg
  have R1 := R0.but k3 (by omega)
  have K4 := k3.keeps K3 (by omega)
  clear T0 R0 K3 k3 hc3
  go_wp2_with fail
  refine (l6DrawFloor_any g _ hc4).mono ?_
  rintro e w4 ⟨f, rfl, hf, hc5, k4⟩
  have T2 := T1.but k4 hsg
  have R2 := R1.but k4 (by omega)
  have K5 := k4.keeps K4 (by omega)
  clear T1 R1 K4 k4 hc4
  go_wp2_with fail
  have H0 : HasB g w s (tc t) w4 := ⟨.of K5, T2⟩
  have r1 : ∀ w', HasB g w s (tc t) w' → ∀ k, w'.cell? ⟨s, k, none⟩ = (tc t)[k]? := fun w' h => h.box.cells
  have hc6 := hc5.keeps (Keeps.refl w4).drew
  refine wp_region_held_drew (S := (fun w' => HasB g w s (tc t) w')) (by kernel_rfl) ?_ (fun hHeld => ?_)
  · exact H0.but (.of (Keeps.refl _).drew) hsg
  refine wpAnyH_take (i := 0) (v := ?_) (by simp only [List.getElem?_toArray, List.getElem?_cons_zero]; rfl) (by kernel_rfl) (by kernel_rfl) (by kernel_rfl) (by exact fun _ _ _ h => h) (Or.inl ⟨by rfl, ?_⟩) (by assumption) ?_
  rotate_left
  · (intro w hSw; (try dsimp only at hSw); go_simp; try (with_reducible rfl))
  try simp only [Act.put, List.setIfInBounds_toArray, List.set_cons_zero, List.set_cons_succ]
  refine wpAnyH_take (i := 1) (v := ?_) (by simp only [List.getElem?_toArray, List.getElem?_cons_succ, List.getElem?_cons_zero]; rfl) (by kernel_rfl) (by kernel_rfl) (by kernel_rfl) (by exact fun _ _ _ h => h) (Or.inl ⟨by rfl, ?_⟩) (by assumption) ?_
  rotate_left
  · (intro w hSw; (try dsimp only at hSw); go_simp; try (with_reducible rfl))
  try simp only [Act.put, List.setIfInBounds_toArray, List.set_cons_zero, List.set_cons_succ]
  refine wpAnyH_take (i := 2) (v := ?_) (by simp only [List.getElem?_toArray, List.getElem?_cons_succ, List.getElem?_cons_zero]; rfl) (by kernel_rfl) (by kernel_rfl) (by kernel_rfl) (by exact fun _ _ _ h => h) (Or.inl ⟨by rfl, ?_⟩) (by assumption) ?_
  rotate_left
  · (intro w hSw; (try dsimp only at hSw); go_simp; try (with_reducible rfl))
  try simp only [Act.put, List.setIfInBounds_toArray, List.set_cons_zero, List.set_cons_succ]
  refine wpAnyH_take (i := 3) (v := ?_) (by simp only [List.getElem?_toArray, List.getElem?_cons_succ, List.getElem?_cons_zero]; rfl) (by kernel_rfl) (by kernel_rfl) (by kernel_rfl) (by exact fun _ _ _ h => h) (Or.inl ⟨by rfl, ?_⟩) (by assumption) ?_
  rotate_left
  · (intro w hSw; (try dsimp only at hSw); go_simp; try (with_reducible rfl))
  try simp only [Act.put, List.setIfInBounds_toArray, List.set_cons_zero, List.set_cons_succ]
  refine wpAnyH_ready (rs := [4]) (by kernel_rfl) (by simp) ?_
  refine AllReadyH.cons (by simp only [List.getElem?_toArray, List.getElem?_cons_succ, List.getElem?_cons_zero]; rfl) (fun K hK => ?_) AllReadyH.nil
  go_simp
  first
    | (go_at_call 69; refine (l6DrawFloor_any g _ hc6).mono ?_; rintro e w5 ⟨x, rfl, hx, hc7, k5⟩)
  try go_wp2_with fail
  refine hK.out _ _ ?_ (fun hHeld => ?_)
  · exact hHeld.but k5 hsg
  clear hK K
  try simp only [Act.put, List.setIfInBounds_toArray, List.set_cons_zero, List.set_cons_succ]
  refine wpAnyH_ready (rs := [5]) (by kernel_rfl) (by simp) ?_
  refine AllReadyH.cons (by simp only [List.getElem?_toArray, List.getElem?_cons_succ, List.getElem?_cons_zero]; rfl) (fun K hK => ?_) AllReadyH.nil
  have HB := R2.but ((KeepsBut.of (Keeps.refl w4).drew).trans k5) (by omega); have HD : Hid (Blk w5 w.heap.size (tc Tsk.zero)) := HB; obtain ⟨_, q1, q2⟩ := HB
  go_simp
  try go_wp2_with fail
  refine hK.out _ _ ?_ (fun hHeld => ?_)
  · exact hHeld.put (r := w.heap.size) (by omega) hrs 0 (tc t).toList
  clear hK K
  try simp only [Act.put, List.setIfInBounds_toArray, List.set_cons_zero, List.set_cons_succ]
  refine wpAnyH_take (i := 6) (v := ?_) (by simp only [List.getElem?_toArray, List.getElem?_cons_succ, List.getElem?_cons_zero]; rfl) (by kernel_rfl) (by kernel_rfl) (by kernel_rfl) (by exact fun _ _ _ h => h) (Or.inl ⟨by rfl, ?_⟩) (by assumption) ?_
  rotate_left
  · (intro w hSw; (try dsimp only at hSw); go_simp; try (with_reducible rfl))
  try simp only [Act.put, List.setIfInBounds_toArray, List.set_cons_zero, List.set_cons_succ]
  refine wpAnyH_take (i := 7) (v := ?_) (by simp only [List.getElem?_toArray, List.getElem?_cons_succ, List.getElem?_cons_zero]; rfl) (by kernel_rfl) (by kernel_rfl) (by kernel_rfl) (by exact fun _ _ _ h => h) (Or.inl ⟨by rfl, ?_⟩) (by assumption) ?_
  rotate_left
  · (intro w hSw; (try dsimp only at hSw); go_simp; try (with_reducible rfl))
  try simp only [Act.put, List.setIfInBounds_toArray, List.set_cons_zero, List.set_cons_succ]
  refine wpAnyH_take (i := 8) (v := ?_) (by simp only [List.getElem?_toArray, List.getElem?_cons_succ, List.getElem?_cons_zero]; rfl) (by kernel_rfl) (by kernel_rfl) (by kernel_rfl) (by exact fun _ _ _ h => h) (Or.inl ⟨by rfl, ?_⟩) (by assumption) ?_
  rotate_left
  · (intro w hSw; (try dsimp only at hSw); go_simp; try (with_reducible rfl))
  try simp only [Act.put, List.setIfInBounds_toArray, List.set_cons_zero, List.set_cons_succ]
  refine wpAnyH_done (by kernel_rfl) ?_ _
  go_wp2
  have D := HD.out.putC (tc t).toList rfl
  have K := Keeps.putC (b := w.heap.size) (Nat.le_refl _) (tc t).toList 0 (k5.keeps K5.drew (by omega))
  change bodyPost _ _ _ _ _ (putC w5 w.heap.size 0 (tc t).toList)
  generalize putC w5 w.heap.size 0 (tc t).toList = X at D K ⊢
  exact bodyPost_ret (v := .tuple #[tk t, .int .i64 (c - 1), .int .i64 f, .int .i64 x]) (by simp [results, Try.results36, go_sem, D.cells]) rfl ⟨t, c - 1, f, x, rfl, by omega, hf, hx, K⟩

end Go.Proofs.Ytdndgacaohmdnaa
