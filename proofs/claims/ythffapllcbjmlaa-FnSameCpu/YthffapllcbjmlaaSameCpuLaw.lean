/-
  The law FnSameCpu: its walk, over contracts of the program's functions.
-/
import Derived.Test.YthffapllcbjmlaaGCall4
import Derived.Test.YthffapllcbjmlaaGSys5
import Derived.Test.YthffapllcbjmlaaGSys2
import Derived.Test.YthffapllcbjmlaaGTask3
import Derived.Deep.DeepCutAuto
namespace Go.Proofs.Ythffapllcbjmlaa
open Go.RowKit
attribute [local go_sem] Keeps.refl Keeps.alloc Keeps.drew Keeps.drewN

set_option maxRecDepth 100000 in
set_option linter.unusedSimpArgs false in
set_option maxHeartbeats 8000000 in
theorem sameCpu_walk (H0 : SaysSameCpu) (H1 : SaysFloorOn) (H2 : SaysTaskAt) (a : Option Addr) (n cap : Nat) (w : World) (hm : n ≤ maxLen) (hb : ∀ g, w.heap.size ≤ g → Bytes g w a n) :
    Calls Try.prog 4 #[.slice a n cap] w fun e w' => e = .returned (.bool true) ∧ Keeps w w' := by
  have HS : Hid SaysSameCpu := H0
  have HF : Hid SaysFloorOn := H1
  have HA : Hid SaysTaskAt := H2
  clear H0 H1 H2
  by_cases hn : n ≤ 1048576
  case neg =>
    have hd : decide (1048576 < (n : Int)) = true := by simp; omega
    go_enter Try.func4, Try.ntmps4
    go_wp2_with (go_at_call 8; refine (big_any _ _ _ _ hm).mono ?_; rintro e w1 ⟨rfl, rfl⟩)
    go_ret
    exact ⟨rfl, Keeps.refl _⟩
  have hd : decide (1048576 < (n : Int)) = false := by simp; omega
  have HB : Hid (∀ g, w.heap.size ≤ g → Bytes g w a n) := hb
  clear hb
  go_enter Try.func4, Try.ntmps4
  go_wp2_with fail
  refine (big_any _ _ _ _ hm).mono ?_
  rintro e w0 ⟨rfl, rfl⟩
  rw [hd]
  go_upto_region 4 with (go_at_call 9; refine (drawSameCpu_any a n cap _ hn HB.out).mono ?_; rintro e w1 ⟨s, v, vs, z, y, rfl, o1, sz, k1⟩; obtain ⟨⟨ta5, tn5, tc5⟩, ⟨la5, ln5, lc5⟩, ⟨ga5, gn5, gc5⟩, ⟨fa5, fn5, fc5⟩, ⟨ra5, rn5, rc5⟩⟩ := v)
  have kW : Keeps w0 (w1.alloc (.cells (syc s ⟨⟨ta5, tn5, tc5⟩, ⟨la5, ln5, lc5⟩, ⟨ga5, gn5, gc5⟩, ⟨fa5, fn5, fc5⟩, ⟨ra5, rn5, rc5⟩⟩) 36)) := k1.alloc _
  have ON : Hid (SysOn (w1.alloc (.cells (syc s ⟨⟨ta5, tn5, tc5⟩, ⟨la5, ln5, lc5⟩, ⟨ga5, gn5, gc5⟩, ⟨fa5, fn5, fc5⟩, ⟨ra5, rn5, rc5⟩⟩) 36)) ⟨⟨ta5, tn5, tc5⟩, ⟨la5, ln5, lc5⟩, ⟨ga5, gn5, gc5⟩, ⟨fa5, fn5, fc5⟩, ⟨ra5, rn5, rc5⟩⟩ s) := (o1.on (by have := sz.2.2; omega)).keeps ((Keeps.refl _).alloc _)
  have X0 : Hid (Blk (w1.alloc (.cells (syc s ⟨⟨ta5, tn5, tc5⟩, ⟨la5, ln5, lc5⟩, ⟨ga5, gn5, gc5⟩, ⟨fa5, fn5, fc5⟩, ⟨ra5, rn5, rc5⟩⟩) 36)) w1.heap.size (syc s ⟨⟨ta5, tn5, tc5⟩, ⟨la5, ln5, lc5⟩, ⟨ga5, gn5, gc5⟩, ⟨fa5, fn5, fc5⟩, ⟨ra5, rn5, rc5⟩⟩)) := Blk.new _ _ _
  obtain ⟨sm, Hsm⟩ : ∃ b, Hid (sameB s z y = b) := ⟨_, rfl⟩
  have hne : (sm != sm) = false := by simp
  change Code.wp _ _ _ _ (w1.alloc (.cells (syc s ⟨⟨ta5, tn5, tc5⟩, ⟨la5, ln5, lc5⟩, ⟨ga5, gn5, gc5⟩, ⟨fa5, fn5, fc5⟩, ⟨ra5, rn5, rc5⟩⟩) 36))
  clear o1 k1 sz hd
  generalize w1.alloc (.cells (syc s ⟨⟨ta5, tn5, tc5⟩, ⟨la5, ln5, lc5⟩, ⟨ga5, gn5, gc5⟩, ⟨fa5, fn5, fc5⟩, ⟨ra5, rn5, rc5⟩⟩) 36) = W at *
  generalize w1.heap.size = xb at *
  have hb0 : ∀ w', Keeps W w' → ∀ q, w'.cell? ⟨xb, q, none⟩ = (syc s ⟨⟨ta5, tn5, tc5⟩, ⟨la5, ln5, lc5⟩, ⟨ga5, gn5, gc5⟩, ⟨fa5, fn5, fc5⟩, ⟨ra5, rn5, rc5⟩⟩)[q]? := fun w' k => (X0.out.keeps k).cells
  dsimp only [syc] at hb0
  have I1 : Hid (∀ w', Keeps W w' → Calls Try.prog 10 #[.agg (syc s ⟨⟨ta5, tn5, tc5⟩, ⟨la5, ln5, lc5⟩, ⟨ga5, gn5, gc5⟩, ⟨fa5, fn5, fc5⟩, ⟨ra5, rn5, rc5⟩⟩), .int .i64 z, .int .i64 y] w' fun e w'' => e = .returned (.bool sm) ∧ Keeps w' w'') := fun w' kk => by
    have := HS.out w' _ s z y (ON.out.keeps kk)
    rw [Hsm.out] at this
    exact this
  have M1 : Hid (∀ w', Keeps W w' → Calls Try.prog 11 #[.agg (syc s ⟨⟨ta5, tn5, tc5⟩, ⟨la5, ln5, lc5⟩, ⟨ga5, gn5, gc5⟩, ⟨fa5, fn5, fc5⟩, ⟨ra5, rn5, rc5⟩⟩), .int .i64 z, .int .i64 y] w' fun e w'' => e = .returned (.bool sm) ∧ Keeps w' w'') := fun w' kk => by
    have := specSameCpu_any (ON.out.keeps kk) z y
    rw [Hsm.out] at this
    exact this
  go_upto_region 5 with (go_at_call 10; refine (I1.out _ (Keeps.refl _)).mono ?_; rintro e w2 ⟨rfl, k2⟩)
  go_upto_region 7 with (go_at_call 11; refine (M1.out _ k2).mono ?_; rintro e w3 ⟨rfl, k3⟩)
  have K3 : Keeps W w3 := k2.trans k3
  clear I1 M1 k2 k3
  go_upto_region 8 with (go_at_call 12; refine (drawFloorOn_any a n cap _ hn (fun g hg => (HB.out g (by have := (kW.trans K3).size; omega)).but (.of (kW.trans K3)))).mono ?_; rintro e w4 ⟨s2, v2, vs2, z2, rfl, o4, sz4, k4⟩; obtain ⟨⟨ta7, tn7, tc7⟩, ⟨la7, ln7, lc7⟩, ⟨ga7, gn7, gc7⟩, ⟨fa7, fn7, fc7⟩, ⟨ra7, rn7, rc7⟩⟩ := v2)
  have K5 : Keeps W (w4.alloc (.cells (syc s2 ⟨⟨ta7, tn7, tc7⟩, ⟨la7, ln7, lc7⟩, ⟨ga7, gn7, gc7⟩, ⟨fa7, fn7, fc7⟩, ⟨ra7, rn7, rc7⟩⟩) 36)) := (K3.trans k4).alloc _
  have ON2 : Hid (SysOn (w4.alloc (.cells (syc s2 ⟨⟨ta7, tn7, tc7⟩, ⟨la7, ln7, lc7⟩, ⟨ga7, gn7, gc7⟩, ⟨fa7, fn7, fc7⟩, ⟨ra7, rn7, rc7⟩⟩) 36)) ⟨⟨ta7, tn7, tc7⟩, ⟨la7, ln7, lc7⟩, ⟨ga7, gn7, gc7⟩, ⟨fa7, fn7, fc7⟩, ⟨ra7, rn7, rc7⟩⟩ s2) := (o4.on (by have := sz4.2.2; omega)).keeps ((Keeps.refl _).alloc _)
  have X2 : Hid (Blk (w4.alloc (.cells (syc s2 ⟨⟨ta7, tn7, tc7⟩, ⟨la7, ln7, lc7⟩, ⟨ga7, gn7, gc7⟩, ⟨fa7, fn7, fc7⟩, ⟨ra7, rn7, rc7⟩⟩) 36)) w4.heap.size (syc s2 ⟨⟨ta7, tn7, tc7⟩, ⟨la7, ln7, lc7⟩, ⟨ga7, gn7, gc7⟩, ⟨fa7, fn7, fc7⟩, ⟨ra7, rn7, rc7⟩⟩)) := Blk.new _ _ _
  obtain ⟨fl, Hfl⟩ : ∃ b, Hid (floorI s2 z2 = b) := ⟨_, rfl⟩
  have hnf : (fl != fl) = false := by simp
  change Code.wp _ _ _ _ (w4.alloc (.cells (syc s2 ⟨⟨ta7, tn7, tc7⟩, ⟨la7, ln7, lc7⟩, ⟨ga7, gn7, gc7⟩, ⟨fa7, fn7, fc7⟩, ⟨ra7, rn7, rc7⟩⟩) 36))
  clear o4 k4 sz4 K3
  generalize w4.alloc (.cells (syc s2 ⟨⟨ta7, tn7, tc7⟩, ⟨la7, ln7, lc7⟩, ⟨ga7, gn7, gc7⟩, ⟨fa7, fn7, fc7⟩, ⟨ra7, rn7, rc7⟩⟩) 36) = Y at *
  generalize w4.heap.size = yb at *
  have hb2 : ∀ w', Keeps Y w' → ∀ q, w'.cell? ⟨yb, q, none⟩ = (syc s2 ⟨⟨ta7, tn7, tc7⟩, ⟨la7, ln7, lc7⟩, ⟨ga7, gn7, gc7⟩, ⟨fa7, fn7, fc7⟩, ⟨ra7, rn7, rc7⟩⟩)[q]? := fun w' k => (X2.out.keeps k).cells
  dsimp only [syc] at hb2
  have I2 : Hid (∀ w', Keeps Y w' → Calls Try.prog 13 #[.agg (syc s2 ⟨⟨ta7, tn7, tc7⟩, ⟨la7, ln7, lc7⟩, ⟨ga7, gn7, gc7⟩, ⟨fa7, fn7, fc7⟩, ⟨ra7, rn7, rc7⟩⟩), .int .i64 z2] w' fun e w'' => e = .returned (.int .i64 fl) ∧ Keeps w' w'') := fun w' kk => by
    have := HF.out w' _ s2 z2 (ON2.out.keeps kk)
    rw [Hfl.out] at this
    exact this
  have M2 : Hid (∀ w', Keeps Y w' → Calls Try.prog 14 #[.agg (syc s2 ⟨⟨ta7, tn7, tc7⟩, ⟨la7, ln7, lc7⟩, ⟨ga7, gn7, gc7⟩, ⟨fa7, fn7, fc7⟩, ⟨ra7, rn7, rc7⟩⟩), .int .i64 z2] w' fun e w'' => e = .returned (.int .i64 fl) ∧ Keeps w' w'') := fun w' kk => by
    have := specFloorOn_any (ON2.out.keeps kk) z2
    rw [Hfl.out] at this
    exact this
  go_upto_region 9 with (go_at_call 13; refine (I2.out _ (Keeps.refl _)).mono ?_; rintro e w6 ⟨rfl, k6⟩)
  go_upto_region 11 with (go_at_call 14; refine (M2.out _ k6).mono ?_; rintro e w7 ⟨rfl, k7⟩)
  have K7 : Keeps W w7 := K5.trans (k6.trans k7)
  clear I2 M2 hb2 k6 k7 K5 ON2 X2
  cases sm
  · go_wp2
    go_ret
    exact ⟨rfl, kW.trans K7⟩
  have hsb := Hsm.out
  unfold sameB at hsb
  simp only [Bool.and_eq_true, Bool.or_eq_true, beq_iff_eq, inB_iff] at hsb
  obtain ⟨⟨hz0, hz1⟩, hth, hor⟩ := hsb
  have hT := ON.out.onT
  have hL := ON.out.onL
  obtain ⟨k, t, ek, htk, -⟩ := thereB_iff.1 hth
  have Hek : Hid (atFrom s.tasks y = (k : Int)) := ek
  have Htt : tAt s.tasks y = t := tAt_of ek htk
  obtain ⟨i, rfl⟩ : ∃ i : Nat, z = (i : Int) := ⟨z.toNat, by omega⟩
  have hll := hL.len
  dsimp only at hll
  obtain ⟨l, hli⟩ := some_in (xs := s.locks) (k := i) (by omega)
  have how : ownerAt s.locks (i : Int).toNat = l.owner := by rw [Int.toNat_natCast]; exact ownerAt_of hli
  rw [how, Htt] at hor
  obtain ⟨hin, lb, loff, la', lcap', ha, r0, -, -, -⟩ := hL.at hli
  dsimp only at ha hin
  subst ha
  obtain ⟨p, Hp⟩ : ∃ p, Hid (atFrom s.tasks l.owner = p) := ⟨_, rfl⟩
  have hkn : k < tn5 := by have := lt_of_some htk; have := hT.len; dsimp only at this; omega
  obtain ⟨bt, ot, hat, rt⟩ := hT.all (by dsimp only; omega)
  dsimp only at hat
  subst hat
  have ra : ∀ w', Keeps W w' → w'.cell? ⟨bt, ot + k * 14 + 2, none⟩ = some (.int .i64 t.cpu) := fun w' h => (rt k t htk).2 w' h 2 (by omega)
  have hki : (k : Int) < (tn5 : Int) := by omega
  have hii : (i : Int) < (ln5 : Int) := by omega
  have hil : decide ((ln5 : Int) ≤ (i : Int)) = false := by simp; omega
  have TA : Hid (∀ (no z : Int), atFrom s.tasks no = z → ∀ w', Keeps W w' → Calls Try.prog 15 #[.slice (some ⟨bt, ot, none⟩) tn5 tc5, .int .i64 no] w' fun e w'' => e = .returned (.int .i64 z) ∧ Keeps w' w'') := fun no z hz w' kk => by
    have h' := hT.keeps kk
    have := HA.out _ tc5 s.tasks no w' h'.small h'.lies
    rw [h'.len, hz] at this
    exact this
  have RT : Hid (∀ (j : Nat) (x : Tsk), s.tasks[j]? = some x → ∀ w', Keeps W w' → w'.cell? ⟨bt, ot + j * 14 + 2, none⟩ = some (.int .i64 x.cpu)) := fun j x hj w' h => (rt j x hj).2 w' h 2 (by omega)
  clear rt hT hL hth ek Htt how hli hll
  go_upto_region 14 with (go_at_call 15; refine (TA.out y _ Hek.out _ K7).mono ?_; rintro e w8 ⟨rfl, k8⟩)
  have K8 : Keeps W w8 := K7.trans k8
  go_upto_region 16 with fail
  refine wp_region_held_drew (S := (fun w' => Keeps W w')) (by kernel_rfl) ?_ (fun hHeld => ?_)
  · exact K8.drew
  refine takeH 0 (v := ?_) (by simp only [opsAt]; rfl) (by kernel_rfl) (by exact fun _ _ _ h => h) (by rfl) (by assumption) ?_ ?_
  rotate_left
  · (intro w _; go_simp; try (with_reducible rfl))
  try simp only [putAtH]
  refine takeH 1 (v := ?_) (by simp only [opsAt]; rfl) (by kernel_rfl) (by exact fun _ _ _ h => h) (by rfl) (by assumption) ?_ ?_
  rotate_left
  · (intro w _; go_simp; try (with_reducible rfl))
  try simp only [putAtH]
  refine takeH 2 (v := ?_) (by simp only [opsAt]; rfl) (by kernel_rfl) (by exact fun _ _ _ h => h) (by rfl) (by assumption) ?_ ?_
  rotate_left
  · (intro w _; go_simp; try (with_reducible rfl))
  try simp only [putAtH]
  refine takeH 3 (v := ?_) (by simp only [opsAt]; rfl) (by kernel_rfl) (by exact fun _ _ _ h => h) (by rfl) (by assumption) ?_ ?_
  rotate_left
  · (intro w _; go_simp; try (with_reducible rfl))
  try simp only [putAtH]
  refine takeH 4 (v := ?_) (by simp only [opsAt]; rfl) (by kernel_rfl) (by exact fun _ _ _ h => h) (by rfl) (by assumption) ?_ ?_
  rotate_left
  · (intro w _; go_simp; try (with_reducible rfl))
  try simp only [putAtH]
  refine takeH 5 (v := ?_) (by simp only [opsAt]; rfl) (by kernel_rfl) (by exact fun _ _ _ h => h) (by rfl) (by assumption) ?_ ?_
  rotate_left
  · (intro w _; go_simp; try (with_reducible rfl))
  try simp only [putAtH]
  refine takeH 6 (v := ?_) (by simp only [opsAt]; rfl) (by kernel_rfl) (by exact fun _ _ _ h => h) (by rfl) (by assumption) ?_ ?_
  rotate_left
  · (intro w _; go_simp; try (with_reducible rfl))
  try simp only [putAtH]
  refine takeH 7 (v := ?_) (by simp only [opsAt]; rfl) (by kernel_rfl) (by exact fun _ _ _ h => h) (by rfl) (by assumption) ?_ ?_
  rotate_left
  · (intro w _; go_simp; try (with_reducible rfl))
  try simp only [putAtH]
  refine callH 8 (by kernel_rfl) (by simp only [opsAt]; rfl) (fun K hK => ?_)
  go_simp
  (go_at_call 15; refine (TA.out l.owner _ Hp.out _ (by assumption)).mono ?_; rintro e w9 ⟨rfl, k9⟩)
  try go_wp2_with fail
  refine hK.out _ _ ?_ (fun hHeld => ?_)
  · first | assumption | exact Keeps.trans (by assumption) (by assumption)
  clear hK K
  try simp only [putAtH]
  refine takeH 9 (v := ?_) (by simp only [opsAt]; rfl) (by kernel_rfl) (by exact fun _ _ _ h => h) (by rfl) (by assumption) ?_ ?_
  rotate_left
  · (intro w _; go_simp; try (with_reducible rfl))
  try simp only [putAtH]
  refine wpAnyH_done (by kernel_rfl) ?_ _
  have K9 : Keeps W w9 := by assumption
  clear TA k8 k9 K8 K7
  go_upto_region 17 with fail
  cases c3 : (l.owner == 0)
  rotate_left
  · clear hor
    refine wp_region_held_drew (S := (fun w' => Keeps W w')) (by kernel_rfl) ?_ (fun hHeld => ?_)
    · exact K9.drew
    refine takeH 0 (v := ?_) (by simp only [opsAt]; rfl) (by kernel_rfl) (by exact fun _ _ _ h => h) (by rfl) (by assumption) ?_ ?_
    rotate_left
    · (intro w _; go_simp; try (with_reducible rfl))
    try simp only [putAtH]
    refine takeH 1 (v := ?_) (by simp only [opsAt]; rfl) (by kernel_rfl) (by exact fun _ _ _ h => h) (by rfl) (by assumption) ?_ ?_
    rotate_left
    · (intro w _; go_simp; try (with_reducible rfl))
    try simp only [putAtH]
    refine takeH 2 (v := ?_) (by simp only [opsAt]; rfl) (by kernel_rfl) (by exact fun _ _ _ h => h) (by rfl) (by assumption) ?_ ?_
    rotate_left
    · (intro w _; go_simp; try (with_reducible rfl))
    try simp only [putAtH]
    refine takeH 3 (v := ?_) (by simp only [opsAt]; rfl) (by kernel_rfl) (by exact fun _ _ _ h => h) (by rfl) (by assumption) ?_ ?_
    rotate_left
    · (intro w _; go_simp; try (with_reducible rfl))
    try simp only [putAtH]
    refine takeH 4 (v := ?_) (by simp only [opsAt]; rfl) (by kernel_rfl) (by exact fun _ _ _ h => h) (by rfl) (by assumption) ?_ ?_
    rotate_left
    · (intro w _; go_simp; try (with_reducible rfl))
    try simp only [putAtH]
    refine takeH 5 (v := ?_) (by simp only [opsAt]; rfl) (by kernel_rfl) (by exact fun _ _ _ h => h) (by rfl) (by assumption) ?_ ?_
    rotate_left
    · (intro w _; go_simp; try (with_reducible rfl))
    try simp only [putAtH]
    refine takeH 6 (v := ?_) (by simp only [opsAt]; rfl) (by kernel_rfl) (by exact fun _ _ _ h => h) (by rfl) (by assumption) ?_ ?_
    rotate_left
    · (intro w _; go_simp; try (with_reducible rfl))
    try simp only [putAtH]
    refine takeH 7 (v := ?_) (by simp only [opsAt]; rfl) (by kernel_rfl) (by exact fun _ _ _ h => h) (by rfl) (by assumption) ?_ ?_
    rotate_left
    · (intro w _; go_simp; try (with_reducible rfl))
    try simp only [putAtH]
    refine skipH 8 (by simp only [opsAt]; rfl) (by kernel_rfl) (by exact fun _ _ _ h => h) (by rfl) (by assumption) ?_
    try simp only [putAtH]
    refine skipH 9 (by simp only [opsAt]; rfl) (by kernel_rfl) (by exact fun _ _ _ h => h) (by rfl) (by assumption) ?_
    try simp only [putAtH]
    refine skipH 10 (by simp only [opsAt]; rfl) (by kernel_rfl) (by exact fun _ _ _ h => h) (by rfl) (by assumption) ?_
    try simp only [putAtH]
    refine skipH 11 (by simp only [opsAt]; rfl) (by kernel_rfl) (by exact fun _ _ _ h => h) (by rfl) (by assumption) ?_
    try simp only [putAtH]
    refine skipH 12 (by simp only [opsAt]; rfl) (by kernel_rfl) (by exact fun _ _ _ h => h) (by rfl) (by assumption) ?_
    try simp only [putAtH]
    refine skipH 13 (by simp only [opsAt]; rfl) (by kernel_rfl) (by exact fun _ _ _ h => h) (by rfl) (by assumption) ?_
    try simp only [putAtH]
    refine skipH 14 (by simp only [opsAt]; rfl) (by kernel_rfl) (by exact fun _ _ _ h => h) (by rfl) (by assumption) ?_
    try simp only [putAtH]
    refine skipH 15 (by simp only [opsAt]; rfl) (by kernel_rfl) (by exact fun _ _ _ h => h) (by rfl) (by assumption) ?_
    try simp only [putAtH]
    refine skipH 16 (by simp only [opsAt]; rfl) (by kernel_rfl) (by exact fun _ _ _ h => h) (by rfl) (by assumption) ?_
    try simp only [putAtH]
    refine skipH 17 (by simp only [opsAt]; rfl) (by kernel_rfl) (by exact fun _ _ _ h => h) (by rfl) (by assumption) ?_
    try simp only [putAtH]
    refine skipH 18 (by simp only [opsAt]; rfl) (by kernel_rfl) (by exact fun _ _ _ h => h) (by rfl) (by assumption) ?_
    try simp only [putAtH]
    refine skipH 19 (by simp only [opsAt]; rfl) (by kernel_rfl) (by exact fun _ _ _ h => h) (by rfl) (by assumption) ?_
    try simp only [putAtH]
    refine skipH 20 (by simp only [opsAt]; rfl) (by kernel_rfl) (by exact fun _ _ _ h => h) (by rfl) (by assumption) ?_
    try simp only [putAtH]
    refine skipH 21 (by simp only [opsAt]; rfl) (by kernel_rfl) (by exact fun _ _ _ h => h) (by rfl) (by assumption) ?_
    try simp only [putAtH]
    refine skipH 22 (by simp only [opsAt]; rfl) (by kernel_rfl) (by exact fun _ _ _ h => h) (by rfl) (by assumption) ?_
    try simp only [putAtH]
    refine skipH 23 (by simp only [opsAt]; rfl) (by kernel_rfl) (by exact fun _ _ _ h => h) (by rfl) (by assumption) ?_
    try simp only [putAtH]
    refine skipH 24 (by simp only [opsAt]; rfl) (by kernel_rfl) (by exact fun _ _ _ h => h) (by rfl) (by assumption) ?_
    try simp only [putAtH]
    refine takeH 25 (v := ?_) (by simp only [opsAt]; rfl) (by kernel_rfl) (by exact fun _ _ _ h => h) (by rfl) (by assumption) ?_ ?_
    rotate_left
    · (intro w _; go_simp; try (with_reducible rfl))
    try simp only [putAtH]
    refine takeH 26 (v := ?_) (by simp only [opsAt]; rfl) (by kernel_rfl) (by exact fun _ _ _ h => h) (by rfl) (by assumption) ?_ ?_
    rotate_left
    · (intro w _; go_simp; try (with_reducible rfl))
    try simp only [putAtH]
    refine wpAnyH_done (by kernel_rfl) ?_ _
    go_wp2
    go_ret
    exact ⟨rfl, kW.trans K9.drew⟩
  rcases hor with h | ⟨h1, h2⟩
  · simp [h] at c3
  obtain ⟨j, x, ej, hj, -⟩ := thereB_iff.1 h1
  have hx : tAt s.tasks l.owner = x := tAt_of ej hj
  rw [hx] at h2
  have epj : p = (j : Int) := by rw [← Hp.out]; exact ej
  clear hx ej h1
  subst epj
  have rb := RT.out j x hj
  have hjn : j < tn5 := by have := lt_of_some hj; have := ON.out.onT.len; dsimp only at this; omega
  have hji : (j : Int) < (tn5 : Int) := by omega
  have hj0 : decide ((0 : Int) ≤ (j : Int)) = true := by simp
  have hcc : (x.cpu == t.cpu) = true := by simp [h2]
  clear hj h2
  refine wp_region_held_drew (S := (fun w' => Keeps W w')) (by kernel_rfl) ?_ (fun hHeld => ?_)
  · exact K9.drew
  refine takeH 0 (v := ?_) (by simp only [opsAt]; rfl) (by kernel_rfl) (by exact fun _ _ _ h => h) (by rfl) (by assumption) ?_ ?_
  rotate_left
  · (intro w _; go_simp; try (with_reducible rfl))
  try simp only [putAtH]
  refine takeH 1 (v := ?_) (by simp only [opsAt]; rfl) (by kernel_rfl) (by exact fun _ _ _ h => h) (by rfl) (by assumption) ?_ ?_
  rotate_left
  · (intro w _; go_simp; try (with_reducible rfl))
  try simp only [putAtH]
  refine takeH 2 (v := ?_) (by simp only [opsAt]; rfl) (by kernel_rfl) (by exact fun _ _ _ h => h) (by rfl) (by assumption) ?_ ?_
  rotate_left
  · (intro w _; go_simp; try (with_reducible rfl))
  try simp only [putAtH]
  refine takeH 3 (v := ?_) (by simp only [opsAt]; rfl) (by kernel_rfl) (by exact fun _ _ _ h => h) (by rfl) (by assumption) ?_ ?_
  rotate_left
  · (intro w _; go_simp; try (with_reducible rfl))
  try simp only [putAtH]
  refine takeH 4 (v := ?_) (by simp only [opsAt]; rfl) (by kernel_rfl) (by exact fun _ _ _ h => h) (by rfl) (by assumption) ?_ ?_
  rotate_left
  · (intro w _; go_simp; try (with_reducible rfl))
  try simp only [putAtH]
  refine takeH 5 (v := ?_) (by simp only [opsAt]; rfl) (by kernel_rfl) (by exact fun _ _ _ h => h) (by rfl) (by assumption) ?_ ?_
  rotate_left
  · (intro w _; go_simp; try (with_reducible rfl))
  try simp only [putAtH]
  refine takeH 6 (v := ?_) (by simp only [opsAt]; rfl) (by kernel_rfl) (by exact fun _ _ _ h => h) (by rfl) (by assumption) ?_ ?_
  rotate_left
  · (intro w _; go_simp; try (with_reducible rfl))
  try simp only [putAtH]
  refine takeH 7 (v := ?_) (by simp only [opsAt]; rfl) (by kernel_rfl) (by exact fun _ _ _ h => h) (by rfl) (by assumption) ?_ ?_
  rotate_left
  · (intro w _; go_simp; try (with_reducible rfl))
  try simp only [putAtH]
  refine takeH 8 (v := ?_) (by simp only [opsAt]; rfl) (by kernel_rfl) (by exact fun _ _ _ h => h) (by rfl) (by assumption) ?_ ?_
  rotate_left
  · (intro w _; go_simp; try (with_reducible rfl))
  try simp only [putAtH]
  refine takeH 9 (v := ?_) (by simp only [opsAt]; rfl) (by kernel_rfl) (by exact fun _ _ _ h => h) (by rfl) (by assumption) ?_ ?_
  rotate_left
  · (intro w _; go_simp; try (with_reducible rfl))
  try simp only [putAtH]
  refine takeH 10 (v := ?_) (by simp only [opsAt]; rfl) (by kernel_rfl) (by exact fun _ _ _ h => h) (by rfl) (by assumption) ?_ ?_
  rotate_left
  · (intro w _; go_simp; try (with_reducible rfl))
  try simp only [putAtH]
  refine takeH 11 (v := ?_) (by simp only [opsAt]; rfl) (by kernel_rfl) (by exact fun _ _ _ h => h) (by rfl) (by assumption) ?_ ?_
  rotate_left
  · (intro w _; go_simp; try (with_reducible rfl))
  try simp only [putAtH]
  refine takeH 12 (v := ?_) (by simp only [opsAt]; rfl) (by kernel_rfl) (by exact fun _ _ _ h => h) (by rfl) (by assumption) ?_ ?_
  rotate_left
  · (intro w _; go_simp; try (with_reducible rfl))
  try simp only [putAtH]
  refine takeH 13 (v := ?_) (by simp only [opsAt]; rfl) (by kernel_rfl) (by exact fun _ _ _ h => h) (by rfl) (by assumption) ?_ ?_
  rotate_left
  · (intro w _; go_simp; try (with_reducible rfl))
  try simp only [putAtH]
  refine takeH 14 (v := ?_) (by simp only [opsAt]; rfl) (by kernel_rfl) (by exact fun _ _ _ h => h) (by rfl) (by assumption) ?_ ?_
  rotate_left
  · (intro w _; go_simp; try (with_reducible rfl))
  try simp only [putAtH]
  refine takeH 15 (v := ?_) (by simp only [opsAt]; rfl) (by kernel_rfl) (by exact fun _ _ _ h => h) (by rfl) (by assumption) ?_ ?_
  rotate_left
  · (intro w _; go_simp; try (with_reducible rfl))
  try simp only [putAtH]
  refine takeH 16 (v := ?_) (by simp only [opsAt]; rfl) (by kernel_rfl) (by exact fun _ _ _ h => h) (by rfl) (by assumption) ?_ ?_
  rotate_left
  · (intro w _; go_simp; try (with_reducible rfl))
  try simp only [putAtH]
  refine takeH 17 (v := ?_) (by simp only [opsAt]; rfl) (by kernel_rfl) (by exact fun _ _ _ h => h) (by rfl) (by assumption) ?_ ?_
  rotate_left
  · (intro w _; go_simp; try (with_reducible rfl))
  try simp only [putAtH]
  refine takeH 18 (v := ?_) (by simp only [opsAt]; rfl) (by kernel_rfl) (by exact fun _ _ _ h => h) (by rfl) (by assumption) ?_ ?_
  rotate_left
  · (intro w _; go_simp; try (with_reducible rfl))
  try simp only [putAtH]
  refine takeH 19 (v := ?_) (by simp only [opsAt]; rfl) (by kernel_rfl) (by exact fun _ _ _ h => h) (by rfl) (by assumption) ?_ ?_
  rotate_left
  · (intro w _; go_simp; try (with_reducible rfl))
  try simp only [putAtH]
  refine takeH 20 (v := ?_) (by simp only [opsAt]; rfl) (by kernel_rfl) (by exact fun _ _ _ h => h) (by rfl) (by assumption) ?_ ?_
  rotate_left
  · (intro w _; go_simp; try (with_reducible rfl))
  try simp only [putAtH]
  refine takeH 21 (v := ?_) (by simp only [opsAt]; rfl) (by kernel_rfl) (by exact fun _ _ _ h => h) (by rfl) (by assumption) ?_ ?_
  rotate_left
  · (intro w _; go_simp; try (with_reducible rfl))
  try simp only [putAtH]
  refine takeH 22 (v := ?_) (by simp only [opsAt]; rfl) (by kernel_rfl) (by exact fun _ _ _ h => h) (by rfl) (by assumption) ?_ ?_
  rotate_left
  · (intro w _; go_simp; try (with_reducible rfl))
  try simp only [putAtH]
  refine takeH 23 (v := ?_) (by simp only [opsAt]; rfl) (by kernel_rfl) (by exact fun _ _ _ h => h) (by rfl) (by assumption) ?_ ?_
  rotate_left
  · (intro w _; go_simp; try (with_reducible rfl))
  try simp only [putAtH]
  refine takeH 24 (v := ?_) (by simp only [opsAt]; rfl) (by kernel_rfl) (by exact fun _ _ _ h => h) (by rfl) (by assumption) ?_ ?_
  rotate_left
  · (intro w _; go_simp; try (with_reducible rfl))
  try simp only [putAtH]
  refine takeH 25 (v := ?_) (by simp only [opsAt]; rfl) (by kernel_rfl) (by exact fun _ _ _ h => h) (by rfl) (by assumption) ?_ ?_
  rotate_left
  · (intro w _; go_simp; try (with_reducible rfl))
  try simp only [putAtH]
  refine takeH 26 (v := ?_) (by simp only [opsAt]; rfl) (by kernel_rfl) (by exact fun _ _ _ h => h) (by rfl) (by assumption) ?_ ?_
  rotate_left
  · (intro w _; go_simp; try (with_reducible rfl))
  try simp only [putAtH]
  refine wpAnyH_done (by kernel_rfl) ?_ _
  go_wp2
  go_ret
  exact ⟨rfl, kW.trans K9.drew⟩
end Go.Proofs.Ythffapllcbjmlaa
