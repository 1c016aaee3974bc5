/-
  The law FnCounted: its walk, over contracts of the program's functions.
-/
import Derived.Test.YthffapllcbjmlaaGreatDoorGCall4
import Derived.Test.YthffapllcbjmlaaGreatDoorGSys6
import Derived.Test.YthffapllcbjmlaaGreatDoorSysOkL
import Derived.Test.YthffapllcbjmlaaGreatDoorGSys5
import Derived.Deep.DeepCutAuto
namespace Go.Proofs.YthffapllcbjmlaaGreatDoor
open Go.RowKit
attribute [local go_sem] Keeps.refl Keeps.alloc Keeps.drew Keeps.drewN

set_option maxRecDepth 100000 in
theorem run_eqlIn_share (d : Nat) (w : World) (q p q' p' : Int) : (Op.equalIn (d + 2) 39 (sh q p) (sh q' p')).run Tryz.prog w = .ok (q == q' && p == p') w := by
  rw [run_equalIn_agg _ _ _ _ _ (by kernel_rfl) (by kernel_rfl)]
  go_simp
  by_cases h0 : q = q'
  case neg => simp only [if_neg h0, beq_eq_false_iff_ne.2 h0, Bool.false_and]
  simp only [if_pos h0, beq_iff_eq.2 h0, Bool.true_and]
  by_cases h1 : p = p'
  case neg => simp only [if_neg h1, beq_eq_false_iff_ne.2 h1]
  simp only [if_pos h1, beq_iff_eq.2 h1]
set_option maxRecDepth 100000 in
theorem run_neq_share (w : World) (q p : Int) : (binOp .neq 39 (sh q p) (sh q p)).run Tryz.prog w = .ok (.bool false) w := by
  rw [run_neq_struct, run_eqlIn_share 9998]; simp
attribute [local go_sem high] run_neq_share
/-- How many of the first are so, and the next one's place. -/
theorem filter_next {α β : Type} (p : α → Bool) (f : α → β) {xs : List α} {k : Nat} {x : α} (h : xs[k]? = some x) (hp : p x = true) : ((xs.filter p).map f)[((xs.take k).filter p).length]? = some (f x) := by
  have hk := lt_of_some h
  have e : xs = xs.take k ++ x :: xs.drop (k + 1) := by
    rw [List.getElem?_eq_getElem hk] at h
    simp only [Option.some.injEq] at h
    rw [← h, List.getElem_cons_drop, List.take_append_drop]
  have e2 : xs.filter p = (xs.take k).filter p ++ x :: (xs.drop (k + 1)).filter p := by
    have := congrArg (List.filter p) e
    rw [List.filter_append, List.filter_cons_of_pos hp] at this
    exact this
  rw [e2, List.map_append, List.getElem?_append_right (by simp)]
  simp
set_option maxRecDepth 100000 in
set_option linter.unusedSimpArgs false in
set_option maxHeartbeats 8000000 in
theorem counted_walk (H0 : SaysSharesOn) (H1 : SaysSysOk) (H2 : ∀ {w : World} {base : Nat} {u : Value} {xs : List (Int × Int)}, OwnP w base u xs → Calls Tryz.prog 10 #[u] w fun e w' => e = .returned (.bool (fitsL xs)) ∧ Keeps w w') (a : Option Addr) (n cap : Nat) (w : World) (hg : GlobE w) (hm : n ≤ maxLen) (hb : ∀ g, w.heap.size ≤ g → Bytes g w a n) :
    Calls Tryz.prog 3 #[.slice a n cap] w fun e w' => e = .returned (.bool true) ∧ Keeps w w' := by
  have HS : Hid SaysSharesOn := H0
  have HK : Hid SaysSysOk := H1
  have HT : Hid (∀ {w : World} {base : Nat} {u : Value} {xs : List (Int × Int)}, OwnP w base u xs → Calls Tryz.prog 10 #[u] w fun e w' => e = .returned (.bool (fitsL xs)) ∧ Keeps w w') := @H2
  clear H0 H1 H2
  by_cases hn : n ≤ 1048576
  case neg =>
    have hd : decide (1048576 < (n : Int)) = true := by simp; omega
    go_enter Tryz.func3, Tryz.ntmps3
    go_wp2_with (go_at_call 4; refine (big_any _ _ _ _ hm).mono ?_; rintro e w1 ⟨rfl, rfl⟩)
    go_ret
    exact ⟨rfl, Keeps.refl _⟩
  have hd : decide (1048576 < (n : Int)) = false := by simp; omega
  go_enter Tryz.func3, Tryz.ntmps3
  go_wp2_with fail
  refine (big_any _ _ _ _ hm).mono ?_
  rintro e w0 ⟨rfl, rfl⟩
  rw [hd]
  go_upto_region 4 with (go_at_call 5; refine (drawSharesOn_any a n cap _ hn hb).mono ?_; rintro e w1 ⟨s, v, vs, z, rfl, o1, sz, k1⟩; obtain ⟨⟨ta5, tn5, tc5⟩, ⟨la5, ln5, lc5⟩, ⟨ga5, gn5, gc5⟩, ⟨fa5, fn5, fc5⟩, ⟨ra5, rn5, rc5⟩⟩ := v)
  clear hb
  have kW : Keeps w0 (w1.alloc (.cells (syc s ⟨⟨ta5, tn5, tc5⟩, ⟨la5, ln5, lc5⟩, ⟨ga5, gn5, gc5⟩, ⟨fa5, fn5, fc5⟩, ⟨ra5, rn5, rc5⟩⟩) 30)) := k1.alloc _
  have HG : Hid (GlobE (w1.alloc (.cells (syc s ⟨⟨ta5, tn5, tc5⟩, ⟨la5, ln5, lc5⟩, ⟨ga5, gn5, gc5⟩, ⟨fa5, fn5, fc5⟩, ⟨ra5, rn5, rc5⟩⟩) 30))) := hg.keeps kW
  have ON : Hid (SysOn (w1.alloc (.cells (syc s ⟨⟨ta5, tn5, tc5⟩, ⟨la5, ln5, lc5⟩, ⟨ga5, gn5, gc5⟩, ⟨fa5, fn5, fc5⟩, ⟨ra5, rn5, rc5⟩⟩) 30)) ⟨⟨ta5, tn5, tc5⟩, ⟨la5, ln5, lc5⟩, ⟨ga5, gn5, gc5⟩, ⟨fa5, fn5, fc5⟩, ⟨ra5, rn5, rc5⟩⟩ s) := (o1.on (by have := sz.2.2; omega)).keeps ((Keeps.refl _).alloc _)
  have X0 : Hid (Blk (w1.alloc (.cells (syc s ⟨⟨ta5, tn5, tc5⟩, ⟨la5, ln5, lc5⟩, ⟨ga5, gn5, gc5⟩, ⟨fa5, fn5, fc5⟩, ⟨ra5, rn5, rc5⟩⟩) 30)) w1.heap.size (syc s ⟨⟨ta5, tn5, tc5⟩, ⟨la5, ln5, lc5⟩, ⟨ga5, gn5, gc5⟩, ⟨fa5, fn5, fc5⟩, ⟨ra5, rn5, rc5⟩⟩)) := Blk.new _ _ _
  have hsz := sz.2.2
  obtain ⟨L, HL⟩ : ∃ L, Hid (sharesL s z = L) := ⟨_, rfl⟩
  obtain ⟨N, HN⟩ : ∃ N, Hid (L.length = N) := ⟨_, rfl⟩
  obtain ⟨sb, Hsb⟩ : ∃ b, Hid (sysB s = b) := ⟨_, rfl⟩
  have hne : (sb != sb) = false := by simp
  have hnn : ((N : Int) != (N : Int)) = false := by simp
  change Code.wp _ _ _ _ (w1.alloc (.cells (syc s ⟨⟨ta5, tn5, tc5⟩, ⟨la5, ln5, lc5⟩, ⟨ga5, gn5, gc5⟩, ⟨fa5, fn5, fc5⟩, ⟨ra5, rn5, rc5⟩⟩) 30))
  clear o1 k1 sz hd hg
  generalize w1.alloc (.cells (syc s ⟨⟨ta5, tn5, tc5⟩, ⟨la5, ln5, lc5⟩, ⟨ga5, gn5, gc5⟩, ⟨fa5, fn5, fc5⟩, ⟨ra5, rn5, rc5⟩⟩) 30) = W at *
  generalize w1.heap.size = xb at *
  have hb0 : ∀ w', Keeps W w' → ∀ q, w'.cell? ⟨xb, q, none⟩ = (syc s ⟨⟨ta5, tn5, tc5⟩, ⟨la5, ln5, lc5⟩, ⟨ga5, gn5, gc5⟩, ⟨fa5, fn5, fc5⟩, ⟨ra5, rn5, rc5⟩⟩)[q]? := fun w' k => (X0.out.keeps k).cells
  dsimp only [syc] at hb0
  have SI : Hid (∀ w', Keeps W w' → Calls Tryz.prog 6 #[.agg (syc s ⟨⟨ta5, tn5, tc5⟩, ⟨la5, ln5, lc5⟩, ⟨ga5, gn5, gc5⟩, ⟨fa5, fn5, fc5⟩, ⟨ra5, rn5, rc5⟩⟩), .int .i64 z] w' fun e w'' => ∃ u, e = .returned u ∧ OwnP w'' w'.heap.size u L ∧ Keeps w' w'') := fun w' kk => by
    have := HS.out w' _ s z (ON.out.keeps kk)
    rw [HL.out] at this
    exact this
  have SM : Hid (∀ w', Keeps W w' → Calls Tryz.prog 7 #[.agg (syc s ⟨⟨ta5, tn5, tc5⟩, ⟨la5, ln5, lc5⟩, ⟨ga5, gn5, gc5⟩, ⟨fa5, fn5, fc5⟩, ⟨ra5, rn5, rc5⟩⟩), .int .i64 z] w' fun e w'' => ∃ u, e = .returned u ∧ OwnP w'' w'.heap.size u L ∧ Keeps w' w'') := fun w' kk => by
    have := specSharesOn_any (ON.out.keeps kk) z
    rw [HL.out] at this
    exact this
  have OI : Hid (∀ w', Keeps W w' → Calls Tryz.prog 8 #[.agg (syc s ⟨⟨ta5, tn5, tc5⟩, ⟨la5, ln5, lc5⟩, ⟨ga5, gn5, gc5⟩, ⟨fa5, fn5, fc5⟩, ⟨ra5, rn5, rc5⟩⟩)] w' fun e w'' => e = .returned (.bool sb) ∧ Keeps w' w'') := fun w' kk => by
    have := HK.out w' _ s (HG.out.keeps kk) (ON.out.keeps kk)
    rw [Hsb.out] at this
    exact this
  have OM : Hid (∀ w', Keeps W w' → Calls Tryz.prog 9 #[.agg (syc s ⟨⟨ta5, tn5, tc5⟩, ⟨la5, ln5, lc5⟩, ⟨ga5, gn5, gc5⟩, ⟨fa5, fn5, fc5⟩, ⟨ra5, rn5, rc5⟩⟩)] w' fun e w'' => e = .returned (.bool sb) ∧ Keeps w' w'') := fun w' kk => by
    have := specSysOk_any (ON.out.keeps kk)
    rw [Hsb.out] at this
    exact this
  go_upto_region 5 with (go_at_call 6; refine (SI.out _ (Keeps.refl _)).mono ?_; rintro e w2 ⟨u2, rfl, o2, k2⟩; obtain ⟨a2, c2, e2⟩ := o2.form pc_size; rw [HN.out] at e2; subst e2)
  go_upto_region 6 with (go_at_call 7; refine (SM.out _ k2).mono ?_; rintro e w3 ⟨u3, rfl, o3, k3⟩; obtain ⟨a3, c3, e3⟩ := o3.form pc_size; rw [HN.out] at e3; subst e3)
  have K3 : Keeps W w3 := k2.trans k3
  have O3 : Hid (OwnP w3 W.heap.size (.slice a2 N c2) L) := o2.keeps k3
  clear SI SM o2 o3 k3 k2
  refine wp_region_held_drew (S := (fun w' => Keeps W w')) (by kernel_rfl) ?_ (fun hHeld => ?_)
  · exact K3.drew
  refine Plan.go [0, 1, 2, 3, 4, 5, 6, 8] ?_
  iterate 8 (refine takeL (by simp only [opsAt]; rfl) (by kernel_rfl) (by exact fun _ _ _ h => h) (by rfl) (by assumption) (fun w _ => by go_simp; try (with_reducible rfl)) ?_; try simp only [putAtH])
  refine Plan.nil ?_
  refine callH 7 (by kernel_rfl) (by simp only [opsAt]; rfl) (fun K hK => ?_)
  go_simp
  first
    | (go_at_call 8; refine (OI.out _ (by assumption)).mono ?_; rintro e w4 ⟨rfl, k4⟩)
    | (go_at_call 9; refine (OM.out _ (by assumption)).mono ?_; rintro e w5 ⟨rfl, k5⟩)
  try go_wp2_with fail
  refine hK.out _ _ ?_ (fun hHeld => ?_)
  · first | assumption | exact Keeps.trans (by assumption) (by assumption)
  clear hK K
  try simp only [putAtH]
  refine callH 9 (by kernel_rfl) (by simp only [opsAt]; rfl) (fun K hK => ?_)
  go_simp
  first
    | (go_at_call 8; refine (OI.out _ (by assumption)).mono ?_; rintro e w4 ⟨rfl, k4⟩)
    | (go_at_call 9; refine (OM.out _ (by assumption)).mono ?_; rintro e w5 ⟨rfl, k5⟩)
  try go_wp2_with fail
  refine hK.out _ _ ?_ (fun hHeld => ?_)
  · first | assumption | exact Keeps.trans (by assumption) (by assumption)
  clear hK K
  try simp only [putAtH]
  refine Plan.go [10, 11] ?_
  iterate 2 (refine takeL (by simp only [opsAt]; rfl) (by kernel_rfl) (by exact fun _ _ _ h => h) (by rfl) (by assumption) (fun w _ => by go_simp; try (with_reducible rfl)) ?_; try simp only [putAtH])
  refine Plan.nil ?_
  refine wpAnyH_done (by kernel_rfl) ?_ _
  have K5 : Keeps w3 w5 := ((Keeps.refl w3).drew.trans k4).trans k5
  have KW5 : Keeps W w5 := K3.trans K5
  have O5 : Hid (OwnP w5 W.heap.size (.slice a2 N c2) L) := O3.out.keeps K5
  have hb5 : ∀ w', Keeps w5 w' → ∀ q, w'.cell? ⟨xb, q, none⟩ = _ := fun w' k => hb0 w' (KW5.trans k)
  have Hn5 : Hid (s.tasks.length = tn5) := ON.out.lay.tl
  have Hg5 : Hid (s.ghosts.length = gn5) := ON.out.lay.gl
  have htn : tn5 ≤ 5000 := by have := Hn5.out; unfold sizeS at hsz; omega
  have hgn : gn5 ≤ 5000 := by have := Hg5.out; unfold sizeS at hsz; omega
  have S5 : Hid (SysOn w5 ⟨⟨ta5, tn5, tc5⟩, ⟨la5, ln5, lc5⟩, ⟨ga5, gn5, gc5⟩, ⟨fa5, fn5, fc5⟩, ⟨ra5, rn5, rc5⟩⟩ s) := ON.out.keeps KW5
  clear hb0 OI k4 k5 O3
  have LI : Hid (∀ (m : Nat) (q p : Int), L[m]? = some (q, p) → (m : Int) < (N : Int) ∧ ∃ b, a2 = some ⟨b, 0, none⟩ ∧ ∀ w', Keeps w5 w' → w'.cell? ⟨b, m * 2, none⟩ = some (.int .i64 q) ∧ w'.cell? ⟨b, m * 2 + 1, none⟩ = some (.int .i64 p)) := fun m q p hmq => by
    have hml := lt_of_some hmq
    obtain ⟨b, cp, e, -, -, -⟩ := O5.out.some pc_size (by omega)
    have O := O5.out
    rw [e] at O
    have h0 := O.cellAt pc_size (i := m) (k := 0) hmq (by omega)
    have h1 := O.cellAt pc_size (i := m) (k := 1) hmq (by omega)
    have h2 := (O.ltb b rfl).2
    simp only [Value.slice.injEq] at e
    refine ⟨by have := HN.out; omega, b, e.1, fun w' kk => ⟨(kk.cells b _ h2).trans (by simpa using h0), (kk.cells b _ h2).trans (by simpa using h1)⟩⟩
  have HL2 : Hid (L = (s.tasks.filter (dueOn z)).map partT ++ (s.ghosts.filter (ghOn z)).map partG) := HL.out.symm
  obtain ⟨T, HT1⟩ : ∃ T : Nat, Hid ((s.tasks.filter (dueOn z)).length = T) := ⟨_, rfl⟩
  go_wp2_with fail
  go_loopw [7, 8] (fun c i wr => ∃ (k m : Nat), k ≤ tn5 ∧ i = .int .i64 k ∧ c = .int .i64 m ∧ Hid (((s.tasks.take k).filter (dueOn z)).length = m) ∧ m ≤ k ∧ Keeps w5 wr) (fun _ i _ => tn5 - (intOf i).toNat)
  case atStart => exact ⟨0, 0, Nat.zero_le _, rfl, rfl, by show _ = _; simp, Nat.le_refl _, Keeps.refl _⟩
  case round =>
    obtain ⟨k, m, hk, rfl, rfl, Hm, hmk, kr⟩ := hrel
    by_cases hlt : k < tn5
    · have hlt' : (k : Int) < (tn5 : Int) := by omega
      obtain ⟨t, htk⟩ := some_in (xs := s.tasks) (k := k) (by rw [Hn5.out]; exact hlt)
      obtain ⟨bt, ot, hat, rt⟩ := S5.out.onT.all (by dsimp only; omega)
      dsimp only at hat
      subst hat
      have r1 : ∀ w', Keeps w5 w' → ∀ j, j < 14 → w'.cell? ⟨bt, ot + k * 14 + j, none⟩ = (tc t)[j]? := fun w' h => (rt k t htk).2 w' h
      have r0 : ∀ w', Keeps w5 w' → w'.cell? ⟨bt, ot + k * 14, none⟩ = some (.int .i64 t.no) := fun w' h => by have := r1 w' h 0 (by omega); simpa using this
      have Hf : Hid (((s.tasks.take (k + 1)).filter (dueOn z)).length = m + (if dueOn z t then 1 else 0)) := by
        show _ = _
        have e1 : s.tasks.take (k + 1) = s.tasks.take k ++ [t] := take_snoc htk
        rw [e1, List.filter_append, List.length_append, Hm.out]
        cases h : dueOn z t
        · simp [h]
        · simp [h]
      have Hnx : Hid (dueOn z t = true → L[m]? = some (t.q, t.p)) := fun h => by
        have := filter_next (dueOn z) partT htk h
        rw [Hm.out] at this
        rw [HL2.out, List.getElem?_append_left (lt_of_some this)]
        exact this
      clear rt htk
      cases c1 : (t.cls == 1)
      · have hd0 : dueOn z t = false := by simp [dueOn, c1]
        have Hf2 : Hid (((s.tasks.take (k + 1)).filter (dueOn z)).length = m) := by show _ = _; rw [Hf.out, hd0]; rfl
        clear Hf Hnx
        go_wp2
        exact ⟨⟨k + 1, m, by omega, by go_num, rfl, Hf2, by omega, kr.alloc _⟩, by simp only [intOf]; omega⟩
      cases c2 : (t.cpu == z)
      · have hd0 : dueOn z t = false := by simp [dueOn, c2]
        have Hf2 : Hid (((s.tasks.take (k + 1)).filter (dueOn z)).length = m) := by show _ = _; rw [Hf.out, hd0]; rfl
        clear Hf Hnx
        go_wp2
        exact ⟨⟨k + 1, m, by omega, by go_num, rfl, Hf2, by omega, kr.alloc _⟩, by simp only [intOf]; omega⟩
      have hd1 : dueOn z t = true := by simp [dueOn, c1, c2]
      have Hf2 : Hid (((s.tasks.take (k + 1)).filter (dueOn z)).length = m + 1) := by show _ = _; rw [Hf.out, hd1]; rfl
      obtain ⟨hmN, b, hb2, LC⟩ := LI.out m t.q t.p (Hnx.out hd1)
      subst hb2
      have hNm : decide ((N : Int) ≤ (m : Int)) = false := by simp; omega
      have hNm2 : decide (N ≤ m) = false := by simp; omega
      clear Hf Hnx hd1
      go_upto_region 14 with fail
      have kY : Keeps w5 (wr.alloc (.cells (tc t) 37)) := kr.alloc _
      have TB : Blk (wr.alloc (.cells (tc t) 37)) wr.heap.size (tc t) := Blk.new _ _ _
      change Code.wp _ _ _ _ (wr.alloc (.cells (tc t) 37))
      clear r0 r1 kr
      generalize wr.alloc (.cells (tc t) 37) = Y at *
      generalize wr.heap.size = tb at *
      have e0 : ∀ w', Keeps Y w' → w'.cell? ⟨b, m * 2, none⟩ = some (.int .i64 t.q) := fun w' kk => (LC w' (kY.trans kk)).1
      have e1 : ∀ w', Keeps Y w' → w'.cell? ⟨b, m * 2 + 1, none⟩ = some (.int .i64 t.p) := fun w' kk => (LC w' (kY.trans kk)).2
      have e2 : ∀ w', Keeps Y w' → ∀ j, w'.cell? ⟨tb, j, none⟩ = (tc t)[j]? := fun w' kk => (TB.keeps kk).cells
      clear LC TB
      refine wp_region_held_drew (S := (fun w' => Keeps Y w')) (by kernel_rfl) ?_ (fun hHeld => ?_)
      · exact (Keeps.refl Y).drew
      refine Plan.go [0, 1, 2, 3, 4, 5, 6, 7, 8, 9, 10, 11, 12, 13, 14, 15] ?_
      iterate 16 (refine takeL (by simp only [opsAt]; rfl) (by kernel_rfl) (by exact fun _ _ _ h => h) (by rfl) (by assumption) (fun w _ => by go_simp; try (with_reducible rfl)) ?_; try simp only [putAtH])
      refine Plan.nil ?_
      refine wpAnyH_done (by kernel_rfl) ?_ _
      go_wp2
      exact ⟨⟨k + 1, m + 1, by omega, by go_num, by go_num, Hf2, by omega, kY.drew⟩, by simp only [intOf]; omega⟩
    · have hlt' : decide ((k : Int) < (tn5 : Int)) = false := by simp; omega
      have HmT : Hid (T = m) := by
        show _ = _
        have h1 := Hm.out
        rw [List.take_of_length_le (by have := Hn5.out; omega)] at h1
        rw [← HT1.out, h1]
      have hTb : m ≤ 5000 := by omega
      clear Hm hmk
      go_wp2_with fail
      go_loopw [7, 10] (fun c i wr => ∃ (j l : Nat), j ≤ gn5 ∧ i = .int .i64 j ∧ c = .int .i64 l ∧ Hid (m + ((s.ghosts.take j).filter (ghOn z)).length = l) ∧ l ≤ m + j ∧ Keeps w5 wr) (fun _ i _ => gn5 - (intOf i).toNat)
      case atStart => exact ⟨0, m, Nat.zero_le _, rfl, rfl, by show _ = _; simp, Nat.le_refl _, kr⟩
      case round =>
        obtain ⟨j, l, hj, rfl, rfl, Hl, hlj, kr2⟩ := hrel
        clear kr
        by_cases hlt2 : j < gn5
        · have hlt2' : (j : Int) < (gn5 : Int) := by omega
          obtain ⟨x, hx⟩ := some_in (xs := s.ghosts) (k := j) (by rw [Hg5.out]; exact hlt2)
          have hg0 : Gs w5 ga5 s.ghosts := S5.out.lay.g
          obtain ⟨gb, goff, hga, q0, q1⟩ := hg0.at hx (by omega)
          subst hga
          have q2 : ∀ w', Keeps w5 w' → w'.cell? ⟨gb, goff + j * 4 + 1, none⟩ = some (.int .i64 x.q) := fun w' kk => by have := q1 w' kk 1 (by omega); simpa using this
          have q3 : ∀ w', Keeps w5 w' → w'.cell? ⟨gb, goff + j * 4 + 2, none⟩ = some (.int .i64 x.p) := fun w' kk => by have := q1 w' kk 2 (by omega); simpa using this
          have q4 : ∀ w', Keeps w5 w' → w'.cell? ⟨gb, goff + j * 4 + 1 + 1, none⟩ = some (.int .i64 x.p) := q3
          have Hf : Hid (m + ((s.ghosts.take (j + 1)).filter (ghOn z)).length = l + (if ghOn z x then 1 else 0)) := by
            show _ = _
            have e1 : s.ghosts.take (j + 1) = s.ghosts.take j ++ [x] := take_snoc hx
            have h1 := Hl.out
            rw [e1, List.filter_append, List.length_append]
            cases h : ghOn z x
            · simp [h]; omega
            · simp [h]; omega
          have Hnx : Hid (ghOn z x = true → L[l]? = some (x.q, x.p)) := fun h => by
            have := filter_next (ghOn z) partG hx h
            have h1 := Hl.out
            rw [HL2.out, List.getElem?_append_right (by simp only [List.length_map]; rw [HT1.out, HmT.out]; omega), List.length_map, HT1.out, HmT.out, show l - m = ((s.ghosts.take j).filter (ghOn z)).length from by omega]
            exact this
          clear hg0 hx q1
          cases c2 : (x.cpu == z)
          · have hd0 : ghOn z x = false := by simp [ghOn, c2]
            have Hf2 : Hid (m + ((s.ghosts.take (j + 1)).filter (ghOn z)).length = l) := by show _ = _; rw [Hf.out, hd0]; rfl
            clear Hf Hnx
            go_wp2
            exact ⟨⟨j + 1, l, by omega, by go_num, rfl, Hf2, by omega, kr2⟩, by simp only [intOf]; omega⟩
          have hd1 : ghOn z x = true := by simp [ghOn, c2]
          have Hf2 : Hid (m + ((s.ghosts.take (j + 1)).filter (ghOn z)).length = l + 1) := by show _ = _; rw [Hf.out, hd1]; rfl
          obtain ⟨hmN, b, hb2, LC⟩ := LI.out l x.q x.p (Hnx.out hd1)
          subst hb2
          have hNm : decide ((N : Int) ≤ (l : Int)) = false := by simp; omega
          have hNm2 : decide (N ≤ l) = false := by simp; omega
          clear Hf Hnx hd1
          have e0 : ∀ w', Keeps w5 w' → w'.cell? ⟨b, l * 2, none⟩ = some (.int .i64 x.q) := fun w' kk => (LC w' kk).1
          have e1 : ∀ w', Keeps w5 w' → w'.cell? ⟨b, l * 2 + 1, none⟩ = some (.int .i64 x.p) := fun w' kk => (LC w' kk).2
          clear LC
          go_upto_region 21 with fail
          refine wp_region_held_drew (S := (fun w' => Keeps w5 w')) (by kernel_rfl) ?_ (fun hHeld => ?_)
          · exact kr2.drew
          refine Plan.go [0, 1, 2, 3, 4, 5, 6, 7, 8, 9, 10, 11, 12, 13, 14, 15, 16] ?_
          iterate 17 (refine takeL (by simp only [opsAt]; rfl) (by kernel_rfl) (by exact fun _ _ _ h => h) (by rfl) (by assumption) (fun w _ => by go_simp; try (with_reducible rfl)) ?_; try simp only [putAtH])
          refine Plan.nil ?_
          refine wpAnyH_done (by kernel_rfl) ?_ _
          go_wp2
          exact ⟨⟨j + 1, l + 1, by omega, by go_num, by go_num, Hf2, by omega, kr2.drew⟩, by simp only [intOf]; omega⟩
        · have hlt2' : decide ((j : Int) < (gn5 : Int)) = false := by simp; omega
          have hlN : l = N := by
            have h1 := Hl.out
            rw [List.take_of_length_le (by have := Hg5.out; omega)] at h1
            rw [← HN.out, HL2.out, List.length_append, List.length_map, List.length_map, HT1.out, HmT.out]
            omega
          subst hlN
          have hll : ((l : Int) == (l : Int)) = true := by simp
          have KW2 : Keeps W wr := KW5.trans kr2
          cases sb
          · go_wp2_with (go_at_call 9; refine (OM.out _ KW2).mono ?_; rintro e w8 ⟨rfl, k8⟩)
            go_ret
            exact ⟨rfl, kW.trans (KW2.trans k8)⟩
          have R := sysB_iff.1 Hsb.out
          cases c3 : decide (z < 0)
          rotate_left
          · have c3' : z < 0 := of_decide_eq_true c3
            go_wp2_with (go_at_call 9; refine (OM.out _ KW2).mono ?_; rintro e w8 ⟨rfl, k8⟩)
            go_ret
            exact ⟨rfl, kW.trans (KW2.trans k8)⟩
          have c3' : ¬ z < 0 := of_decide_eq_false c3
          cases c4 : decide (s.cpus ≤ z)
          rotate_left
          · have c4' : s.cpus ≤ z := of_decide_eq_true c4
            go_wp2_with (go_at_call 9; refine (OM.out _ KW2).mono ?_; rintro e w8 ⟨rfl, k8⟩; have K8 : Keeps w5 w8 := kr2.trans k8)
            go_ret
            exact ⟨rfl, kW.trans (KW2.trans k8)⟩
          have c4' : ¬ s.cpus ≤ z := of_decide_eq_false c4
          have hfit : fitsL L = true := by
            have h1 := R.cpu z.toNat (by omega)
            unfold cpuB at h1
            simp only [Bool.and_eq_true] at h1
            rw [← HL.out, show z = (z.toNat : Int) from by omega]
            exact h1.2
          have FT : Hid (∀ w', Keeps w5 w' → Calls Tryz.prog 10 #[.slice a2 l c2] w' fun e w'' => e = .returned (.bool true) ∧ Keeps w' w'') := fun w' kk => by
            have := HT.out (O5.out.keeps kk)
            rw [hfit] at this
            exact this
          go_wp2_with first
            | (go_at_call 9; refine (OM.out _ KW2).mono ?_; rintro e w8 ⟨rfl, k8⟩; have K8 : Keeps w5 w8 := kr2.trans k8)
            | (go_at_call 10; refine (FT.out _ K8).mono ?_; rintro e w9 ⟨rfl, k9⟩)
          go_ret
          exact ⟨rfl, kW.trans ((KW2.trans k8).trans k9)⟩
end Go.Proofs.YthffapllcbjmlaaGreatDoor
