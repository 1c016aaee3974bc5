/-
  Two drawn tasks of one class: the contracts of the model's draws.
-/
import Derived.Test.YtdndgacaohmdnaaDrawFix
import Derived.Test.YtdndgacaohmdnaaDrawFair
namespace Go.Proofs.Ytdndgacaohmdnaa
open Go.RowKit

set_option maxRecDepth 100000 in
set_option maxHeartbeats 2000000 in
theorem drawDueBefore_any (a : Option Addr) (n cap : Nat) (w : World) (hn : n ≤ 1048576) (hb : ∀ g, w.heap.size ≤ g → Bytes g w a n) :
    Calls Try.prog 14 #[.slice a n cap] w fun e w' => ∃ t u : Tsk, e = .returned (.tuple #[tk t, tk u]) ∧ Keeps w w' := by
  go_enter Try.func14, Try.ntmps14
  go_wp2_with fail
  have kW : Keeps w ((w.alloc (.cells (tc Tsk.zero) 25)).alloc (.cells (tc Tsk.zero) 25)) := ((Keeps.refl w).alloc _).alloc _
  have B0 := (Blk.new w (tc Tsk.zero) 25).alloc (.cells (tc Tsk.zero) 25)
  have A0 := Blk.new (w.alloc (.cells (tc Tsk.zero) 25)) (tc Tsk.zero) 25
  simp only [World.size_alloc] at A0
  refine (l1New_any a n cap _ hn (fun g hg => (hb g (by have := kW.size; omega)).but (.of kW))).mono ?_
  rintro e w1 ⟨g, rfl, hg, hc1, k1⟩
  clear hb
  have K1 := kW.trans k1
  have B1 := B0.keeps k1
  have A1 := A0.keeps k1
  have hwg : w.heap.size + 1 < g := by simp at hg; omega
  clear kW k1 B0 A0 hg
  go_wp2_with fail
  refine (l4Draw_any g _ hc1).mono ?_
  rintro e w2 ⟨t, rfl, hc2, k2⟩
  have B2 := B1.but k2 (by omega)
  have A2 := A1.but k2 (by omega)
  have K2 := k2.keeps K1 (by omega)
  have hgl := hc2.lt
  go_wp2_with fail
  have H0 : HasB g w w2.heap.size (tc t) (w2.alloc (.cells (tc t) 25)) := ⟨.of (K2.alloc _), Blk.new _ _ _⟩
  have R0 : Blk (w2.alloc (.cells (tc t) 25)) w.heap.size (tc Tsk.zero) := B2.alloc _
  have Q0 : Blk (w2.alloc (.cells (tc t) 25)) (w.heap.size + 1) (tc Tsk.zero) := A2.alloc _
  have hc3 := hc2.keeps ((Keeps.refl w2).alloc (.cells (tc t) 25))
  have K3 : Keeps w (w2.alloc (.cells (tc t) 25)) := K2.alloc _
  have hsg : w2.heap.size ≠ g := by omega
  have hrs : w.heap.size ≠ w2.heap.size := by have := B2.lt; omega
  have hqs : w.heap.size + 1 ≠ w2.heap.size := by have := A2.lt; omega
  clear B1 B2 A1 A2 K1 K2 k2 hc1 hc2
  generalize w2.alloc (.cells (tc t) 25) = W at *
  generalize w2.heap.size = s at *
  have r1 : ∀ w', HasB g w s (tc t) w' → ∀ k, w'.cell? ⟨s, k, none⟩ = (tc t)[k]? := fun w' h => h.box.cells
  have hc4 := hc3.keeps (Keeps.refl W).drew
  refine wp_region_held_drew (S := (fun w' => HasB g w s (tc t) w')) (by kernel_rfl) ?_ (fun hHeld => ?_)
  · exact H0.but (.of (Keeps.refl _).drew) hsg
  refine wpAnyH_take (i := 0) (v := ?_) (by simp only [List.getElem?_toArray, List.getElem?_cons_zero]; rfl) (by kernel_rfl) (by kernel_rfl) (by kernel_rfl) (by exact fun _ _ _ h => h) (Or.inl ⟨by rfl, ?_⟩) (by assumption) ?_
  rotate_left
  · (intro w hSw; (try dsimp only at hSw); go_simp; try (with_reducible rfl))
  try simp only [Act.put, List.setIfInBounds_toArray, List.set_cons_zero, List.set_cons_succ]
  refine wpAnyH_take (i := 1) (v := ?_) (by simp only [List.getElem?_toArray, List.getElem?_cons_succ, List.getElem?_cons_zero]; rfl) (by kernel_rfl) (by kernel_rfl) (by kernel_rfl) (by exact fun _ _ _ h => h) (Or.inl ⟨by rfl, ?_⟩) (by assumption) ?_
  rotate_left
  · (intro w hSw; (try dsimp only at hSw); go_simp; try (with_reducible rfl))
  try simp only [Act.put, List.setIfInBounds_toArray, List.set_cons_zero, List.set_cons_succ]
  refine wpAnyH_ready (rs := [2]) (by kernel_rfl) (by simp) ?_
  refine AllReadyH.cons (by simp only [List.getElem?_toArray, List.getElem?_cons_succ, List.getElem?_cons_zero]; rfl) (fun K hK => ?_) AllReadyH.nil
  go_simp
  first
    | (go_at_call 45; refine (l4Draw_any g _ hc4).mono ?_; rintro e w5 ⟨u, rfl, hc5, k5⟩)
  try go_wp2_with fail
  refine hK.out _ _ ?_ (fun hHeld => ?_)
  · exact hHeld.but k5 hsg
  clear hK K
  try simp only [Act.put, List.setIfInBounds_toArray, List.set_cons_zero, List.set_cons_succ]
  refine wpAnyH_ready (rs := [3]) (by kernel_rfl) (by simp) ?_
  refine AllReadyH.cons (by simp only [List.getElem?_toArray, List.getElem?_cons_succ, List.getElem?_cons_zero]; rfl) (fun K hK => ?_) AllReadyH.nil
  have HB := R0.but ((KeepsBut.of (Keeps.refl W).drew).trans k5) (by omega); have HA := Q0.but ((KeepsBut.of (Keeps.refl W).drew).trans k5) (by omega); have HD : Hid (Blk w5 w.heap.size (tc Tsk.zero)) := HB; have HE : Hid (Blk w5 (w.heap.size + 1) (tc Tsk.zero)) := HA; obtain ⟨_, q1, q2⟩ := HB; obtain ⟨_, q3, q4⟩ := HA
  go_simp
  try go_wp2_with fail
  refine hK.out _ _ ?_ (fun hHeld => ?_)
  · exact hHeld.put (r := w.heap.size) (by omega) hrs 0 (tc t).toList
  clear hK K
  try simp only [Act.put, List.setIfInBounds_toArray, List.set_cons_zero, List.set_cons_succ]
  refine wpAnyH_ready (rs := [4]) (by kernel_rfl) (by simp) ?_
  refine AllReadyH.cons (by simp only [List.getElem?_toArray, List.getElem?_cons_succ, List.getElem?_cons_zero]; rfl) (fun K hK => ?_) AllReadyH.nil
  skip
  go_simp
  try go_wp2_with fail
  refine hK.out _ _ ?_ (fun hHeld => ?_)
  · exact HasB.put (by assumption) (r := w.heap.size + 1) (by omega) hqs 0 (tc u).toList
  clear hK K
  try simp only [Act.put, List.setIfInBounds_toArray, List.set_cons_zero, List.set_cons_succ]
  refine wpAnyH_done (by kernel_rfl) ?_ _
  go_wp2
  have D := Blk.farC (c := w.heap.size + 1) (by omega) (tc u).toList 0 (HD.out.putC (tc t).toList rfl)
  have E := (Blk.farC (c := w.heap.size) (by omega) (tc t).toList 0 HE.out).putC (tc u).toList rfl
  have K := Keeps.putC (b := w.heap.size + 1) (by omega) (tc u).toList 0 (Keeps.putC (b := w.heap.size) (Nat.le_refl _) (tc t).toList 0 (k5.keeps K3.drew (by omega)))
  change bodyPost _ _ _ _ _ (putC (putC w5 w.heap.size 0 (tc t).toList) (w.heap.size + 1) 0 (tc u).toList)
  generalize putC (putC w5 w.heap.size 0 (tc t).toList) (w.heap.size + 1) 0 (tc u).toList = X at D E K ⊢
  exact bodyPost_ret (v := .tuple #[tk t, tk u]) (by simp [results, Try.results14, go_sem, D.cells, E.cells]) rfl ⟨t, u, rfl, K⟩

set_option maxRecDepth 100000 in
set_option maxHeartbeats 2000000 in
theorem drawFixedBefore_any (a : Option Addr) (n cap : Nat) (w : World) (hn : n ≤ 1048576) (hb : ∀ g, w.heap.size ≤ g → Bytes g w a n) :
    Calls Try.prog 15 #[.slice a n cap] w fun e w' => ∃ t u : Tsk, e = .returned (.tuple #[tk t, tk u]) ∧ Keeps w w' := by
  go_enter Try.func15, Try.ntmps15
  go_wp2_with fail
  have kW : Keeps w ((w.alloc (.cells (tc Tsk.zero) 25)).alloc (.cells (tc Tsk.zero) 25)) := ((Keeps.refl w).alloc _).alloc _
  have B0 := (Blk.new w (tc Tsk.zero) 25).alloc (.cells (tc Tsk.zero) 25)
  have A0 := Blk.new (w.alloc (.cells (tc Tsk.zero) 25)) (tc Tsk.zero) 25
  simp only [World.size_alloc] at A0
  refine (l1New_any a n cap _ hn (fun g hg => (hb g (by have := kW.size; omega)).but (.of kW))).mono ?_
  rintro e w1 ⟨g, rfl, hg, hc1, k1⟩
  clear hb
  have K1 := kW.trans k1
  have B1 := B0.keeps k1
  have A1 := A0.keeps k1
  have hwg : w.heap.size + 1 < g := by simp at hg; omega
  clear kW k1 B0 A0 hg
  go_wp2_with fail
  refine (l5Draw_any g _ hc1).mono ?_
  rintro e w2 ⟨t, rfl, hc2, k2⟩
  have B2 := B1.but k2 (by omega)
  have A2 := A1.but k2 (by omega)
  have K2 := k2.keeps K1 (by omega)
  have hgl := hc2.lt
  go_wp2_with fail
  have H0 : HasB g w w2.heap.size (tc t) (w2.alloc (.cells (tc t) 25)) := ⟨.of (K2.alloc _), Blk.new _ _ _⟩
  have R0 : Blk (w2.alloc (.cells (tc t) 25)) w.heap.size (tc Tsk.zero) := B2.alloc _
  have Q0 : Blk (w2.alloc (.cells (tc t) 25)) (w.heap.size + 1) (tc Tsk.zero) := A2.alloc _
  have hc3 := hc2.keeps ((Keeps.refl w2).alloc (.cells (tc t) 25))
  have K3 : Keeps w (w2.alloc (.cells (tc t) 25)) := K2.alloc _
  have hsg : w2.heap.size ≠ g := by omega
  have hrs : w.heap.size ≠ w2.heap.size := by have := B2.lt; omega
  have hqs : w.heap.size + 1 ≠ w2.heap.size := by have := A2.lt; omega
  clear B1 B2 A1 A2 K1 K2 k2 hc1 hc2
  generalize w2.alloc (.cells (tc t) 25) = W at *
  generalize w2.heap.size = s at *
  have r1 : ∀ w', HasB g w s (tc t) w' → ∀ k, w'.cell? ⟨s, k, none⟩ = (tc t)[k]? := fun w' h => h.box.cells
  have hc4 := hc3.keeps (Keeps.refl W).drew
  refine wp_region_held_drew (S := (fun w' => HasB g w s (tc t) w')) (by kernel_rfl) ?_ (fun hHeld => ?_)
  · exact H0.but (.of (Keeps.refl _).drew) hsg
  refine wpAnyH_take (i := 0) (v := ?_) (by simp only [List.getElem?_toArray, List.getElem?_cons_zero]; rfl) (by kernel_rfl) (by kernel_rfl) (by kernel_rfl) (by exact fun _ _ _ h => h) (Or.inl ⟨by rfl, ?_⟩) (by assumption) ?_
  rotate_left
  · (intro w hSw; (try dsimp only at hSw); go_simp; try (with_reducible rfl))
  try simp only [Act.put, List.setIfInBounds_toArray, List.set_cons_zero, List.set_cons_succ]
  refine wpAnyH_take (i := 1) (v := ?_) (by simp only [List.getElem?_toArray, List.getElem?_cons_succ, List.getElem?_cons_zero]; rfl) (by kernel_rfl) (by kernel_rfl) (by kernel_rfl) (by exact fun _ _ _ h => h) (Or.inl ⟨by rfl, ?_⟩) (by assumption) ?_
  rotate_left
  · (intro w hSw; (try dsimp only at hSw); go_simp; try (with_reducible rfl))
  try simp only [Act.put, List.setIfInBounds_toArray, List.set_cons_zero, List.set_cons_succ]
  refine wpAnyH_ready (rs := [2]) (by kernel_rfl) (by simp) ?_
  refine AllReadyH.cons (by simp only [List.getElem?_toArray, List.getElem?_cons_succ, List.getElem?_cons_zero]; rfl) (fun K hK => ?_) AllReadyH.nil
  go_simp
  first
    | (go_at_call 46; refine (l5Draw_any g _ hc4).mono ?_; rintro e w5 ⟨u, rfl, hc5, k5⟩)
  try go_wp2_with fail
  refine hK.out _ _ ?_ (fun hHeld => ?_)
  · exact hHeld.but k5 hsg
  clear hK K
  try simp only [Act.put, List.setIfInBounds_toArray, List.set_cons_zero, List.set_cons_succ]
  refine wpAnyH_ready (rs := [3]) (by kernel_rfl) (by simp) ?_
  refine AllReadyH.cons (by simp only [List.getElem?_toArray, List.getElem?_cons_succ, List.getElem?_cons_zero]; rfl) (fun K hK => ?_) AllReadyH.nil
  have HB := R0.but ((KeepsBut.of (Keeps.refl W).drew).trans k5) (by omega); have HA := Q0.but ((KeepsBut.of (Keeps.refl W).drew).trans k5) (by omega); have HD : Hid (Blk w5 w.heap.size (tc Tsk.zero)) := HB; have HE : Hid (Blk w5 (w.heap.size + 1) (tc Tsk.zero)) := HA; obtain ⟨_, q1, q2⟩ := HB; obtain ⟨_, q3, q4⟩ := HA
  go_simp
  try go_wp2_with fail
  refine hK.out _ _ ?_ (fun hHeld => ?_)
  · exact hHeld.put (r := w.heap.size) (by omega) hrs 0 (tc t).toList
  clear hK K
  try simp only [Act.put, List.setIfInBounds_toArray, List.set_cons_zero, List.set_cons_succ]
  refine wpAnyH_ready (rs := [4]) (by kernel_rfl) (by simp) ?_
  refine AllReadyH.cons (by simp only [List.getElem?_toArray, List.getElem?_cons_succ, List.getElem?_cons_zero]; rfl) (fun K hK => ?_) AllReadyH.nil
  skip
  go_simp
  try go_wp2_with fail
  refine hK.out _ _ ?_ (fun hHeld => ?_)
  · exact HasB.put (by assumption) (r := w.heap.size + 1) (by omega) hqs 0 (tc u).toList
  clear hK K
  try simp only [Act.put, List.setIfInBounds_toArray, List.set_cons_zero, List.set_cons_succ]
  refine wpAnyH_done (by kernel_rfl) ?_ _
  go_wp2
  have D := Blk.farC (c := w.heap.size + 1) (by omega) (tc u).toList 0 (HD.out.putC (tc t).toList rfl)
  have E := (Blk.farC (c := w.heap.size) (by omega) (tc t).toList 0 HE.out).putC (tc u).toList rfl
  have K := Keeps.putC (b := w.heap.size + 1) (by omega) (tc u).toList 0 (Keeps.putC (b := w.heap.size) (Nat.le_refl _) (tc t).toList 0 (k5.keeps K3.drew (by omega)))
  change bodyPost _ _ _ _ _ (putC (putC w5 w.heap.size 0 (tc t).toList) (w.heap.size + 1) 0 (tc u).toList)
  generalize putC (putC w5 w.heap.size 0 (tc t).toList) (w.heap.size + 1) 0 (tc u).toList = X at D E K ⊢
  exact bodyPost_ret (v := .tuple #[tk t, tk u]) (by simp [results, Try.results15, go_sem, D.cells, E.cells]) rfl ⟨t, u, rfl, K⟩

set_option maxRecDepth 100000 in
set_option maxHeartbeats 2000000 in
theorem drawFairBefore_any (a : Option Addr) (n cap : Nat) (w : World) (hn : n ≤ 1048576) (hb : ∀ g, w.heap.size ≤ g → Bytes g w a n) :
    Calls Try.prog 16 #[.slice a n cap] w fun e w' => ∃ t u : Tsk, e = .returned (.tuple #[tk t, tk u]) ∧ Keeps w w' := by
  go_enter Try.func16, Try.ntmps16
  go_wp2_with fail
  have kW : Keeps w ((w.alloc (.cells (tc Tsk.zero) 25)).alloc (.cells (tc Tsk.zero) 25)) := ((Keeps.refl w).alloc _).alloc _
  have B0 := (Blk.new w (tc Tsk.zero) 25).alloc (.cells (tc Tsk.zero) 25)
  have A0 := Blk.new (w.alloc (.cells (tc Tsk.zero) 25)) (tc Tsk.zero) 25
  simp only [World.size_alloc] at A0
  refine (l1New_any a n cap _ hn (fun g hg => (hb g (by have := kW.size; omega)).but (.of kW))).mono ?_
  rintro e w1 ⟨g, rfl, hg, hc1, k1⟩
  clear hb
  have K1 := kW.trans k1
  have B1 := B0.keeps k1
  have A1 := A0.keeps k1
  have hwg : w.heap.size + 1 < g := by simp at hg; omega
  clear kW k1 B0 A0 hg
  go_wp2_with fail
  refine (l6Draw_any g _ hc1).mono ?_
  rintro e w2 ⟨t, rfl, hc2, k2⟩
  have B2 := B1.but k2 (by omega)
  have A2 := A1.but k2 (by omega)
  have K2 := k2.keeps K1 (by omega)
  have hgl := hc2.lt
  go_wp2_with fail
  have H0 : HasB g w w2.heap.size (tc t) (w2.alloc (.cells (tc t) 25)) := ⟨.of (K2.alloc _), Blk.new _ _ _⟩
  have R0 : Blk (w2.alloc (.cells (tc t) 25)) w.heap.size (tc Tsk.zero) := B2.alloc _
  have Q0 : Blk (w2.alloc (.cells (tc t) 25)) (w.heap.size + 1) (tc Tsk.zero) := A2.alloc _
  have hc3 := hc2.keeps ((Keeps.refl w2).alloc (.cells (tc t) 25))
  have K3 : Keeps w (w2.alloc (.cells (tc t) 25)) := K2.alloc _
  have hsg : w2.heap.size ≠ g := by omega
  have hrs : w.heap.size ≠ w2.heap.size := by have := B2.lt; omega
  have hqs : w.heap.size + 1 ≠ w2.heap.size := by have := A2.lt; omega
  clear B1 B2 A1 A2 K1 K2 k2 hc1 hc2
  generalize w2.alloc (.cells (tc t) 25) = W at *
  generalize w2.heap.size = s at *
  have r1 : ∀ w', HasB g w s (tc t) w' → ∀ k, w'.cell? ⟨s, k, none⟩ = (tc t)[k]? := fun w' h => h.box.cells
  have hc4 := hc3.keeps (Keeps.refl W).drew
  refine wp_region_held_drew (S := (fun w' => HasB g w s (tc t) w')) (by kernel_rfl) ?_ (fun hHeld => ?_)
  · exact H0.but (.of (Keeps.refl _).drew) hsg
  refine wpAnyH_take (i := 0) (v := ?_) (by simp only [List.getElem?_toArray, List.getElem?_cons_zero]; rfl) (by kernel_rfl) (by kernel_rfl) (by kernel_rfl) (by exact fun _ _ _ h => h) (Or.inl ⟨by rfl, ?_⟩) (by assumption) ?_
  rotate_left
  · (intro w hSw; (try dsimp only at hSw); go_simp; try (with_reducible rfl))
  try simp only [Act.put, List.setIfInBounds_toArray, List.set_cons_zero, List.set_cons_succ]
  refine wpAnyH_take (i := 1) (v := ?_) (by simp only [List.getElem?_toArray, List.getElem?_cons_succ, List.getElem?_cons_zero]; rfl) (by kernel_rfl) (by kernel_rfl) (by kernel_rfl) (by exact fun _ _ _ h => h) (Or.inl ⟨by rfl, ?_⟩) (by assumption) ?_
  rotate_left
  · (intro w hSw; (try dsimp only at hSw); go_simp; try (with_reducible rfl))
  try simp only [Act.put, List.setIfInBounds_toArray, List.set_cons_zero, List.set_cons_succ]
  refine wpAnyH_ready (rs := [2]) (by kernel_rfl) (by simp) ?_
  refine AllReadyH.cons (by simp only [List.getElem?_toArray, List.getElem?_cons_succ, List.getElem?_cons_zero]; rfl) (fun K hK => ?_) AllReadyH.nil
  go_simp
  first
    | (go_at_call 47; refine (l6Draw_any g _ hc4).mono ?_; rintro e w5 ⟨u, rfl, hc5, k5⟩)
  try go_wp2_with fail
  refine hK.out _ _ ?_ (fun hHeld => ?_)
  · exact hHeld.but k5 hsg
  clear hK K
  try simp only [Act.put, List.setIfInBounds_toArray, List.set_cons_zero, List.set_cons_succ]
  refine wpAnyH_ready (rs := [3]) (by kernel_rfl) (by simp) ?_
  refine AllReadyH.cons (by simp only [List.getElem?_toArray, List.getElem?_cons_succ, List.getElem?_cons_zero]; rfl) (fun K hK => ?_) AllReadyH.nil
  have HB := R0.but ((KeepsBut.of (Keeps.refl W).drew).trans k5) (by omega); have HA := Q0.but ((KeepsBut.of (Keeps.refl W).drew).trans k5) (by omega); have HD : Hid (Blk w5 w.heap.size (tc Tsk.zero)) := HB; have HE : Hid (Blk w5 (w.heap.size + 1) (tc Tsk.zero)) := HA; obtain ⟨_, q1, q2⟩ := HB; obtain ⟨_, q3, q4⟩ := HA
  go_simp
  try go_wp2_with fail
  refine hK.out _ _ ?_ (fun hHeld => ?_)
  · exact hHeld.put (r := w.heap.size) (by omega) hrs 0 (tc t).toList
  clear hK K
  try simp only [Act.put, List.setIfInBounds_toArray, List.set_cons_zero, List.set_cons_succ]
  refine wpAnyH_ready (rs := [4]) (by kernel_rfl) (by simp) ?_
  refine AllReadyH.cons (by simp only [List.getElem?_toArray, List.getElem?_cons_succ, List.getElem?_cons_zero]; rfl) (fun K hK => ?_) AllReadyH.nil
  skip
  go_simp
  try go_wp2_with fail
  refine hK.out _ _ ?_ (fun hHeld => ?_)
  · exact HasB.put (by assumption) (r := w.heap.size + 1) (by omega) hqs 0 (tc u).toList
  clear hK K
  try simp only [Act.put, List.setIfInBounds_toArray, List.set_cons_zero, List.set_cons_succ]
  refine wpAnyH_done (by kernel_rfl) ?_ _
  go_wp2
  have D := Blk.farC (c := w.heap.size + 1) (by omega) (tc u).toList 0 (HD.out.putC (tc t).toList rfl)
  have E := (Blk.farC (c := w.heap.size) (by omega) (tc t).toList 0 HE.out).putC (tc u).toList rfl
  have K := Keeps.putC (b := w.heap.size + 1) (by omega) (tc u).toList 0 (Keeps.putC (b := w.heap.size) (Nat.le_refl _) (tc t).toList 0 (k5.keeps K3.drew (by omega)))
  change bodyPost _ _ _ _ _ (putC (putC w5 w.heap.size 0 (tc t).toList) (w.heap.size + 1) 0 (tc u).toList)
  generalize putC (putC w5 w.heap.size 0 (tc t).toList) (w.heap.size + 1) 0 (tc u).toList = X at D E K ⊢
  exact bodyPost_ret (v := .tuple #[tk t, tk u]) (by simp [results, Try.results16, go_sem, D.cells, E.cells]) rfl ⟨t, u, rfl, K⟩

end Go.Proofs.Ytdndgacaohmdnaa
