/-
  The system: of the same processor.
  The walks of the exact laws of chapter 9 that hand back a number or a flag, over contracts of the program's functions.
  The walk of FnExactLastTurns, over a contract of the program's LastTurns.
-/
import Derived.Test.YtfbjnhifjingeaaGSys2
import Derived.Deep.RegionHeld3
import Derived.Test.YtfbjnhifjingeaaGSys3
import Derived.Test.YtfbjnhifjingeaaGSys4
namespace Go.Proofs.Ytfbjnhifjingeaa
open Go.RowKit
attribute [local go_sem] Keeps.refl Keeps.alloc Keeps.drew Keeps.drewN

set_option maxRecDepth 100000 in
set_option maxHeartbeats 8000000 in
theorem specSameCpu_any {w : World} {v : Sv} {s : Sy} (h : SysOn w v s) (i no : Int) :
    Calls Try.prog 20 #[.agg (syc s v), .int .i64 i, .int .i64 no] w fun e w' => e = .returned (.bool (sameB s i no)) ∧ Keeps w w' := by
  have hm : v.t.n ≤ 2000000 ∧ v.l.n ≤ 2000000 := by have := h.size; have := h.lay.ll; have := h.lay.tl; have := len_le_size s.locks; unfold sizeS at *; omega
  obtain ⟨hm1, hm2⟩ := hm
  have kW : Keeps w (w.alloc (.cells (syc s v) 28)) := (Keeps.refl w).alloc _
  have hb : ∀ w', Keeps (w.alloc (.cells (syc s v) 28)) w' → ∀ j, w'.cell? ⟨w.heap.size, j, none⟩ = (syc s v)[j]? := fun w' k => ((Blk.new w (syc s v) 28).keeps k).cells
  have hT : Hid (OnT (w.alloc (.cells (syc s v) 28)) v.t.a v.t.n v.t.cap s.tasks) := h.onT.keeps kW
  have hL : Hid (On (w.alloc (.cells (syc s v) 28)) v.l.a v.l.n v.l.cap s.locks) := h.onL.keeps kW
  have e1 : IntKind.i64.wrap ((v.l.n : Int) - 1) = (v.l.n : Int) - 1 := Go.IntWalk.i64_in _ (by omega)
  have HE : Hid (sameB s i no = (inB i 0 ((v.l.n : Int) - 1) && (thereB s.tasks no && (ownerAt s.locks i.toNat == 0 || (thereB s.tasks (ownerAt s.locks i.toNat) && (tAt s.tasks (ownerAt s.locks i.toNat)).cpu == (tAt s.tasks no).cpu))))) := by show _ = _; unfold sameB; rw [hL.out.len]
  clear h
  obtain ⟨pa, Hpa⟩ : ∃ pa, Hid (atFrom s.tasks no = pa) := ⟨_, rfl⟩
  go_enter Try.func20, Try.ntmps20
  go_wp2_with fail
  generalize w.alloc (.cells (syc s v) 28) = W at *
  refine (hT.out.sTaskAt no Hpa.out (Keeps.refl _)).mono ?_
  rintro e w1 ⟨rfl, k1⟩
  go_wp2_with fail
  refine (l1In_any _ _ _ _).mono ?_
  rintro e w' ⟨rfl, hw'⟩
  have hw2 := hw'.symm
  subst hw2
  cases c1 : inB i 0 ((v.l.n : Int) - 1)
  · have Hr : Hid (sameB s i no = false) := by show _ = _; rw [HE.out, c1]; rfl
    go_wp2
    go_ret
    exact ⟨by rw [Hr.out]; rfl, kW.trans k1⟩
  cases c2 : decide (pa < 0)
  rotate_left
  · have Hr : Hid (sameB s i no = false) := by show _ = _; rw [HE.out, c1]; unfold thereB; rw [Hpa.out, c2]; rfl
    go_wp2
    go_ret
    exact ⟨by rw [Hr.out]; rfl, kW.trans k1⟩
  have hth : thereB s.tasks no = true := by unfold thereB; rw [Hpa.out, c2]; rfl
  obtain ⟨ka, ta, ea, hta, -⟩ := thereB_iff.1 hth
  have Hta : Hid (tAt s.tasks no = ta) := tAt_of ea hta
  obtain rfl : pa = (ka : Int) := by rw [← Hpa.out]; exact ea
  have hka : ka < v.t.n := by have := lt_of_some hta; rw [hT.out.len] at this; exact this
  have hkai : (ka : Int) < (v.t.n : Int) := by omega
  obtain ⟨bt, ot, hat, rt⟩ := hT.out.all (by omega)
  have ra : ∀ w', Keeps W w' → w'.cell? ⟨bt, ot + ka * 14 + 2, none⟩ = some (.int .i64 ta.cpu) := fun w' h => (rt ka ta hta).2 w' h 2 (by omega)
  have RT : Hid (∀ (i : Nat) (t : Tsk), s.tasks[i]? = some t → ∀ w', Keeps W w' → w'.cell? ⟨bt, ot + i * 14 + 2, none⟩ = some (.int .i64 t.cpu)) := fun i t ht w' h => (rt i t ht).2 w' h 2 (by omega)
  obtain ⟨i0, i1⟩ := inB_iff.1 c1
  obtain ⟨k, rfl⟩ : ∃ k : Nat, i = (k : Int) := ⟨i.toNat, by omega⟩
  obtain ⟨l, hl⟩ := some_in (xs := s.locks) (k := k) (by rw [hL.out.len]; omega)
  obtain ⟨hkn, b, off, a', cap', ha, r0, -, -, -⟩ := hL.out.at hl
  have hki : (k : Int) < (v.l.n : Int) := by omega
  have HE2 : Hid (sameB s k no = (l.owner == 0 || (thereB s.tasks l.owner && (tAt s.tasks l.owner).cpu == ta.cpu))) := by
    show _ = _
    rw [HE.out, c1, hth, Int.toNat_natCast, ownerAt_of hl, Hta.out]
    rfl
  obtain ⟨po, Hpo⟩ : ∃ po, Hid (atFrom s.tasks l.owner = po) := ⟨_, rfl⟩
  have TA : Hid (∀ w', Keeps W w' → Calls Try.prog 56 #[.slice v.t.a v.t.n v.t.cap, .int .i64 l.owner] w' fun e w'' => e = .returned (.int .i64 po) ∧ Keeps w' w'') := fun w' h => hT.out.sTaskAt l.owner Hpo.out h
  rw [hat] at TA
  clear hth ea hta rt Hpa hl HE
  go_wp2_with fail
  refine wp_region_held_drew (S := (fun w' => Keeps W w')) (by kernel_rfl) ?_ (fun hHeld => ?_)
  · exact k1.drew
  refine takeH 0 (v := ?_) (by simp only [opsAt]; rfl) (by kernel_rfl) (by exact fun _ _ _ h => h) (by rfl) (by assumption) ?_ ?_
  rotate_left
  · (intro w _; go_simp; try (with_reducible rfl))
  try simp only [putAtH]
  refine takeH 1 (v := ?_) (by simp only [opsAt]; rfl) (by kernel_rfl) (by exact fun _ _ _ h => h) (by rfl) (by assumption) ?_ ?_
  rotate_left
  · (intro w _; go_simp; try (with_reducible rfl))
  try simp only [putAtH]
  refine takeH 2 (v := ?_) (by simp only [opsAt]; rfl) (by kernel_rfl) (by exact fun _ _ _ h => h) (by rfl) (by assumption) ?_ ?_
  rotate_left
  · (intro w _; go_simp; try (with_reducible rfl))
  try simp only [putAtH]
  refine takeH 3 (v := ?_) (by simp only [opsAt]; rfl) (by kernel_rfl) (by exact fun _ _ _ h => h) (by rfl) (by assumption) ?_ ?_
  rotate_left
  · (intro w _; go_simp; try (with_reducible rfl))
  try simp only [putAtH]
  refine takeH 4 (v := ?_) (by simp only [opsAt]; rfl) (by kernel_rfl) (by exact fun _ _ _ h => h) (by rfl) (by assumption) ?_ ?_
  rotate_left
  · (intro w _; go_simp; try (with_reducible rfl))
  try simp only [putAtH]
  refine takeH 5 (v := ?_) (by simp only [opsAt]; rfl) (by kernel_rfl) (by exact fun _ _ _ h => h) (by rfl) (by assumption) ?_ ?_
  rotate_left
  · (intro w _; go_simp; try (with_reducible rfl))
  try simp only [putAtH]
  refine takeH 6 (v := ?_) (by simp only [opsAt]; rfl) (by kernel_rfl) (by exact fun _ _ _ h => h) (by rfl) (by assumption) ?_ ?_
  rotate_left
  · (intro w _; go_simp; try (with_reducible rfl))
  try simp only [putAtH]
  refine takeH 7 (v := ?_) (by simp only [opsAt]; rfl) (by kernel_rfl) (by exact fun _ _ _ h => h) (by rfl) (by assumption) ?_ ?_
  rotate_left
  · (intro w _; go_simp; try (with_reducible rfl))
  try simp only [putAtH]
  refine callH 8 (by kernel_rfl) (by simp only [opsAt]; rfl) (fun K hK => ?_)
  go_simp
  first
    | (go_at_call 56; refine (TA.out _ k1.drew).mono ?_; rintro e w5 ⟨rfl, k5⟩)
  try go_wp2_with fail
  refine hK.out _ _ ?_ (fun hHeld => ?_)
  · exact Keeps.trans (by assumption) (by assumption)
  clear hK K
  try simp only [putAtH]
  refine takeH 9 (v := ?_) (by simp only [opsAt]; rfl) (by kernel_rfl) (by exact fun _ _ _ h => h) (by rfl) (by assumption) ?_ ?_
  rotate_left
  · (intro w _; go_simp; try (with_reducible rfl))
  try simp only [putAtH]
  refine wpAnyH_done (by kernel_rfl) ?_ _
  have K5 : Keeps W w5 := by assumption
  clear TA
  cases c3 : (l.owner == 0)
  rotate_left
  · have Hr : Hid (sameB s k no = true) := by show _ = _; rw [HE2.out, c3]; rfl
    go_wp2_with fail
    refine wp_region_held_drew (S := (fun w' => Keeps W w')) (by kernel_rfl) ?_ (fun hHeld => ?_)
    · exact K5.drew
    refine takeH 0 (v := ?_) (by simp only [opsAt]; rfl) (by kernel_rfl) (by exact fun _ _ _ h => h) (by rfl) (by assumption) ?_ ?_
    rotate_left
    · (intro w _; go_simp; try (with_reducible rfl))
    try simp only [putAtH]
    refine takeH 1 (v := ?_) (by simp only [opsAt]; rfl) (by kernel_rfl) (by exact fun _ _ _ h => h) (by rfl) (by assumption) ?_ ?_
    rotate_left
    · (intro w _; go_simp; try (with_reducible rfl))
    try simp only [putAtH]
    refine takeH 2 (v := ?_) (by simp only [opsAt]; rfl) (by kernel_rfl) (by exact fun _ _ _ h => h) (by rfl) (by assumption) ?_ ?_
    rotate_left
    · (intro w _; go_simp; try (with_reducible rfl))
    try simp only [putAtH]
    refine takeH 3 (v := ?_) (by simp only [opsAt]; rfl) (by kernel_rfl) (by exact fun _ _ _ h => h) (by rfl) (by assumption) ?_ ?_
    rotate_left
    · (intro w _; go_simp; try (with_reducible rfl))
    try simp only [putAtH]
    refine takeH 4 (v := ?_) (by simp only [opsAt]; rfl) (by kernel_rfl) (by exact fun _ _ _ h => h) (by rfl) (by assumption) ?_ ?_
    rotate_left
    · (intro w _; go_simp; try (with_reducible rfl))
    try simp only [putAtH]
    refine takeH 5 (v := ?_) (by simp only [opsAt]; rfl) (by kernel_rfl) (by exact fun _ _ _ h => h) (by rfl) (by assumption) ?_ ?_
    rotate_left
    · (intro w _; go_simp; try (with_reducible rfl))
    try simp only [putAtH]
    refine takeH 6 (v := ?_) (by simp only [opsAt]; rfl) (by kernel_rfl) (by exact fun _ _ _ h => h) (by rfl) (by assumption) ?_ ?_
    rotate_left
    · (intro w _; go_simp; try (with_reducible rfl))
    try simp only [putAtH]
    refine takeH 7 (v := ?_) (by simp only [opsAt]; rfl) (by kernel_rfl) (by exact fun _ _ _ h => h) (by rfl) (by assumption) ?_ ?_
    rotate_left
    · (intro w _; go_simp; try (with_reducible rfl))
    try simp only [putAtH]
    refine skipH 8 (by simp only [opsAt]; rfl) (by kernel_rfl) (by exact fun _ _ _ h => h) (by rfl) (by assumption) ?_
    try simp only [putAtH]
    refine skipH 9 (by simp only [opsAt]; rfl) (by kernel_rfl) (by exact fun _ _ _ h => h) (by rfl) (by assumption) ?_
    try simp only [putAtH]
    refine skipH 10 (by simp only [opsAt]; rfl) (by kernel_rfl) (by exact fun _ _ _ h => h) (by rfl) (by assumption) ?_
    try simp only [putAtH]
    refine skipH 11 (by simp only [opsAt]; rfl) (by kernel_rfl) (by exact fun _ _ _ h => h) (by rfl) (by assumption) ?_
    try simp only [putAtH]
    refine skipH 12 (by simp only [opsAt]; rfl) (by kernel_rfl) (by exact fun _ _ _ h => h) (by rfl) (by assumption) ?_
    try simp only [putAtH]
    refine skipH 13 (by simp only [opsAt]; rfl) (by kernel_rfl) (by exact fun _ _ _ h => h) (by rfl) (by assumption) ?_
    try simp only [putAtH]
    refine skipH 14 (by simp only [opsAt]; rfl) (by kernel_rfl) (by exact fun _ _ _ h => h) (by rfl) (by assumption) ?_
    try simp only [putAtH]
    refine skipH 15 (by simp only [opsAt]; rfl) (by kernel_rfl) (by exact fun _ _ _ h => h) (by rfl) (by assumption) ?_
    try simp only [putAtH]
    refine skipH 16 (by simp only [opsAt]; rfl) (by kernel_rfl) (by exact fun _ _ _ h => h) (by rfl) (by assumption) ?_
    try simp only [putAtH]
    refine skipH 17 (by simp only [opsAt]; rfl) (by kernel_rfl) (by exact fun _ _ _ h => h) (by rfl) (by assumption) ?_
    try simp only [putAtH]
    refine skipH 18 (by simp only [opsAt]; rfl) (by kernel_rfl) (by exact fun _ _ _ h => h) (by rfl) (by assumption) ?_
    try simp only [putAtH]
    refine skipH 19 (by simp only [opsAt]; rfl) (by kernel_rfl) (by exact fun _ _ _ h => h) (by rfl) (by assumption) ?_
    try simp only [putAtH]
    refine skipH 20 (by simp only [opsAt]; rfl) (by kernel_rfl) (by exact fun _ _ _ h => h) (by rfl) (by assumption) ?_
    try simp only [putAtH]
    refine skipH 21 (by simp only [opsAt]; rfl) (by kernel_rfl) (by exact fun _ _ _ h => h) (by rfl) (by assumption) ?_
    try simp only [putAtH]
    refine skipH 22 (by simp only [opsAt]; rfl) (by kernel_rfl) (by exact fun _ _ _ h => h) (by rfl) (by assumption) ?_
    try simp only [putAtH]
    refine skipH 23 (by simp only [opsAt]; rfl) (by kernel_rfl) (by exact fun _ _ _ h => h) (by rfl) (by assumption) ?_
    try simp only [putAtH]
    refine skipH 24 (by simp only [opsAt]; rfl) (by kernel_rfl) (by exact fun _ _ _ h => h) (by rfl) (by assumption) ?_
    try simp only [putAtH]
    refine takeH 25 (v := ?_) (by simp only [opsAt]; rfl) (by kernel_rfl) (by exact fun _ _ _ h => h) (by rfl) (by assumption) ?_ ?_
    rotate_left
    · (intro w _; go_simp; try (with_reducible rfl))
    try simp only [putAtH]
    refine takeH 26 (v := ?_) (by simp only [opsAt]; rfl) (by kernel_rfl) (by exact fun _ _ _ h => h) (by rfl) (by assumption) ?_ ?_
    rotate_left
    · (intro w _; go_simp; try (with_reducible rfl))
    try simp only [putAtH]
    refine wpAnyH_done (by kernel_rfl) ?_ _
    go_wp2
    go_ret
    exact ⟨by rw [Hr.out]; rfl, kW.trans K5.drew⟩
  cases c4 : decide (0 ≤ po)
  · have Hr : Hid (sameB s k no = false) := by
      have : thereB s.tasks l.owner = false := by unfold thereB; rw [Hpo.out]; simp only [decide_eq_false_iff_not] at c4; simp; omega
      show _ = _
      rw [HE2.out, c3, this]; rfl
    go_wp2_with fail
    refine wp_region_held_drew (S := (fun w' => Keeps W w')) (by kernel_rfl) ?_ (fun hHeld => ?_)
    · exact K5.drew
    refine takeH 0 (v := ?_) (by simp only [opsAt]; rfl) (by kernel_rfl) (by exact fun _ _ _ h => h) (by rfl) (by assumption) ?_ ?_
    rotate_left
    · (intro w _; go_simp; try (with_reducible rfl))
    try simp only [putAtH]
    refine takeH 1 (v := ?_) (by simp only [opsAt]; rfl) (by kernel_rfl) (by exact fun _ _ _ h => h) (by rfl) (by assumption) ?_ ?_
    rotate_left
    · (intro w _; go_simp; try (with_reducible rfl))
    try simp only [putAtH]
    refine takeH 2 (v := ?_) (by simp only [opsAt]; rfl) (by kernel_rfl) (by exact fun _ _ _ h => h) (by rfl) (by assumption) ?_ ?_
    rotate_left
    · (intro w _; go_simp; try (with_reducible rfl))
    try simp only [putAtH]
    refine takeH 3 (v := ?_) (by simp only [opsAt]; rfl) (by kernel_rfl) (by exact fun _ _ _ h => h) (by rfl) (by assumption) ?_ ?_
    rotate_left
    · (intro w _; go_simp; try (with_reducible rfl))
    try simp only [putAtH]
    refine takeH 4 (v := ?_) (by simp only [opsAt]; rfl) (by kernel_rfl) (by exact fun _ _ _ h => h) (by rfl) (by assumption) ?_ ?_
    rotate_left
    · (intro w _; go_simp; try (with_reducible rfl))
    try simp only [putAtH]
    refine takeH 5 (v := ?_) (by simp only [opsAt]; rfl) (by kernel_rfl) (by exact fun _ _ _ h => h) (by rfl) (by assumption) ?_ ?_
    rotate_left
    · (intro w _; go_simp; try (with_reducible rfl))
    try simp only [putAtH]
    refine takeH 6 (v := ?_) (by simp only [opsAt]; rfl) (by kernel_rfl) (by exact fun _ _ _ h => h) (by rfl) (by assumption) ?_ ?_
    rotate_left
    · (intro w _; go_simp; try (with_reducible rfl))
    try simp only [putAtH]
    refine takeH 7 (v := ?_) (by simp only [opsAt]; rfl) (by kernel_rfl) (by exact fun _ _ _ h => h) (by rfl) (by assumption) ?_ ?_
    rotate_left
    · (intro w _; go_simp; try (with_reducible rfl))
    try simp only [putAtH]
    refine takeH 8 (v := ?_) (by simp only [opsAt]; rfl) (by kernel_rfl) (by exact fun _ _ _ h => h) (by rfl) (by assumption) ?_ ?_
    rotate_left
    · (intro w _; go_simp; try (with_reducible rfl))
    try simp only [putAtH]
    refine takeH 9 (v := ?_) (by simp only [opsAt]; rfl) (by kernel_rfl) (by exact fun _ _ _ h => h) (by rfl) (by assumption) ?_ ?_
    rotate_left
    · (intro w _; go_simp; try (with_reducible rfl))
    try simp only [putAtH]
    refine takeH 10 (v := ?_) (by simp only [opsAt]; rfl) (by kernel_rfl) (by exact fun _ _ _ h => h) (by rfl) (by assumption) ?_ ?_
    rotate_left
    · (intro w _; go_simp; try (with_reducible rfl))
    try simp only [putAtH]
    refine skipH 11 (by simp only [opsAt]; rfl) (by kernel_rfl) (by exact fun _ _ _ h => h) (by rfl) (by assumption) ?_
    try simp only [putAtH]
    refine skipH 12 (by simp only [opsAt]; rfl) (by kernel_rfl) (by exact fun _ _ _ h => h) (by rfl) (by assumption) ?_
    try simp only [putAtH]
    refine skipH 13 (by simp only [opsAt]; rfl) (by kernel_rfl) (by exact fun _ _ _ h => h) (by rfl) (by assumption) ?_
    try simp only [putAtH]
    refine skipH 14 (by simp only [opsAt]; rfl) (by kernel_rfl) (by exact fun _ _ _ h => h) (by rfl) (by assumption) ?_
    try simp only [putAtH]
    refine skipH 15 (by simp only [opsAt]; rfl) (by kernel_rfl) (by exact fun _ _ _ h => h) (by rfl) (by assumption) ?_
    try simp only [putAtH]
    refine skipH 16 (by simp only [opsAt]; rfl) (by kernel_rfl) (by exact fun _ _ _ h => h) (by rfl) (by assumption) ?_
    try simp only [putAtH]
    refine skipH 17 (by simp only [opsAt]; rfl) (by kernel_rfl) (by exact fun _ _ _ h => h) (by rfl) (by assumption) ?_
    try simp only [putAtH]
    refine skipH 18 (by simp only [opsAt]; rfl) (by kernel_rfl) (by exact fun _ _ _ h => h) (by rfl) (by assumption) ?_
    try simp only [putAtH]
    refine skipH 19 (by simp only [opsAt]; rfl) (by kernel_rfl) (by exact fun _ _ _ h => h) (by rfl) (by assumption) ?_
    try simp only [putAtH]
    refine skipH 20 (by simp only [opsAt]; rfl) (by kernel_rfl) (by exact fun _ _ _ h => h) (by rfl) (by assumption) ?_
    try simp only [putAtH]
    refine skipH 21 (by simp only [opsAt]; rfl) (by kernel_rfl) (by exact fun _ _ _ h => h) (by rfl) (by assumption) ?_
    try simp only [putAtH]
    refine skipH 22 (by simp only [opsAt]; rfl) (by kernel_rfl) (by exact fun _ _ _ h => h) (by rfl) (by assumption) ?_
    try simp only [putAtH]
    refine skipH 23 (by simp only [opsAt]; rfl) (by kernel_rfl) (by exact fun _ _ _ h => h) (by rfl) (by assumption) ?_
    try simp only [putAtH]
    refine takeH 24 (v := ?_) (by simp only [opsAt]; rfl) (by kernel_rfl) (by exact fun _ _ _ h => h) (by rfl) (by assumption) ?_ ?_
    rotate_left
    · (intro w _; go_simp; try (with_reducible rfl))
    try simp only [putAtH]
    refine takeH 25 (v := ?_) (by simp only [opsAt]; rfl) (by kernel_rfl) (by exact fun _ _ _ h => h) (by rfl) (by assumption) ?_ ?_
    rotate_left
    · (intro w _; go_simp; try (with_reducible rfl))
    try simp only [putAtH]
    refine takeH 26 (v := ?_) (by simp only [opsAt]; rfl) (by kernel_rfl) (by exact fun _ _ _ h => h) (by rfl) (by assumption) ?_ ?_
    rotate_left
    · (intro w _; go_simp; try (with_reducible rfl))
    try simp only [putAtH]
    refine wpAnyH_done (by kernel_rfl) ?_ _
    go_wp2
    go_ret
    exact ⟨by rw [Hr.out]; rfl, kW.trans K5.drew⟩
  have htho : thereB s.tasks l.owner = true := by unfold thereB; rw [Hpo.out]; simp only [decide_eq_true_eq] at c4; simp; omega
  obtain ⟨kx, tx, ex, htx, -⟩ := thereB_iff.1 htho
  have Htx : Hid (tAt s.tasks l.owner = tx) := tAt_of ex htx
  obtain rfl : po = (kx : Int) := by rw [← Hpo.out]; exact ex
  have hkx : kx < v.t.n := by have := lt_of_some htx; rw [hT.out.len] at this; exact this
  have hkxi : (kx : Int) < (v.t.n : Int) := by omega
  have rx : ∀ w', Keeps W w' → w'.cell? ⟨bt, ot + kx * 14 + 2, none⟩ = some (.int .i64 tx.cpu) := fun w' h => RT.out kx tx htx w' h
  have Hr : Hid (sameB s k no = (tx.cpu == ta.cpu)) := by show _ = _; rw [HE2.out, c3, htho, Htx.out]; rfl
  clear htho ex htx Hpo
  go_wp2_with fail
  refine wp_region_held_drew (S := (fun w' => Keeps W w')) (by kernel_rfl) ?_ (fun hHeld => ?_)
  · exact K5.drew
  refine takeH 0 (v := ?_) (by simp only [opsAt]; rfl) (by kernel_rfl) (by exact fun _ _ _ h => h) (by rfl) (by assumption) ?_ ?_
  rotate_left
  · (intro w _; go_simp; try (with_reducible rfl))
  try simp only [putAtH]
  refine takeH 1 (v := ?_) (by simp only [opsAt]; rfl) (by kernel_rfl) (by exact fun _ _ _ h => h) (by rfl) (by assumption) ?_ ?_
  rotate_left
  · (intro w _; go_simp; try (with_reducible rfl))
  try simp only [putAtH]
  refine takeH 2 (v := ?_) (by simp only [opsAt]; rfl) (by kernel_rfl) (by exact fun _ _ _ h => h) (by rfl) (by assumption) ?_ ?_
  rotate_left
  · (intro w _; go_simp; try (with_reducible rfl))
  try simp only [putAtH]
  refine takeH 3 (v := ?_) (by simp only [opsAt]; rfl) (by kernel_rfl) (by exact fun _ _ _ h => h) (by rfl) (by assumption) ?_ ?_
  rotate_left
  · (intro w _; go_simp; try (with_reducible rfl))
  try simp only [putAtH]
  refine takeH 4 (v := ?_) (by simp only [opsAt]; rfl) (by kernel_rfl) (by exact fun _ _ _ h => h) (by rfl) (by assumption) ?_ ?_
  rotate_left
  · (intro w _; go_simp; try (with_reducible rfl))
  try simp only [putAtH]
  refine takeH 5 (v := ?_) (by simp only [opsAt]; rfl) (by kernel_rfl) (by exact fun _ _ _ h => h) (by rfl) (by assumption) ?_ ?_
  rotate_left
  · (intro w _; go_simp; try (with_reducible rfl))
  try simp only [putAtH]
  refine takeH 6 (v := ?_) (by simp only [opsAt]; rfl) (by kernel_rfl) (by exact fun _ _ _ h => h) (by rfl) (by assumption) ?_ ?_
  rotate_left
  · (intro w _; go_simp; try (with_reducible rfl))
  try simp only [putAtH]
  refine takeH 7 (v := ?_) (by simp only [opsAt]; rfl) (by kernel_rfl) (by exact fun _ _ _ h => h) (by rfl) (by assumption) ?_ ?_
  rotate_left
  · (intro w _; go_simp; try (with_reducible rfl))
  try simp only [putAtH]
  refine takeH 8 (v := ?_) (by simp only [opsAt]; rfl) (by kernel_rfl) (by exact fun _ _ _ h => h) (by rfl) (by assumption) ?_ ?_
  rotate_left
  · (intro w _; go_simp; try (with_reducible rfl))
  try simp only [putAtH]
  refine takeH 9 (v := ?_) (by simp only [opsAt]; rfl) (by kernel_rfl) (by exact fun _ _ _ h => h) (by rfl) (by assumption) ?_ ?_
  rotate_left
  · (intro w _; go_simp; try (with_reducible rfl))
  try simp only [putAtH]
  refine takeH 10 (v := ?_) (by simp only [opsAt]; rfl) (by kernel_rfl) (by exact fun _ _ _ h => h) (by rfl) (by assumption) ?_ ?_
  rotate_left
  · (intro w _; go_simp; try (with_reducible rfl))
  try simp only [putAtH]
  refine takeH 11 (v := ?_) (by simp only [opsAt]; rfl) (by kernel_rfl) (by exact fun _ _ _ h => h) (by rfl) (by assumption) ?_ ?_
  rotate_left
  · (intro w _; go_simp; try (with_reducible rfl))
  try simp only [putAtH]
  refine takeH 12 (v := ?_) (by simp only [opsAt]; rfl) (by kernel_rfl) (by exact fun _ _ _ h => h) (by rfl) (by assumption) ?_ ?_
  rotate_left
  · (intro w _; go_simp; try (with_reducible rfl))
  try simp only [putAtH]
  refine takeH 13 (v := ?_) (by simp only [opsAt]; rfl) (by kernel_rfl) (by exact fun _ _ _ h => h) (by rfl) (by assumption) ?_ ?_
  rotate_left
  · (intro w _; go_simp; try (with_reducible rfl))
  try simp only [putAtH]
  refine takeH 14 (v := ?_) (by simp only [opsAt]; rfl) (by kernel_rfl) (by exact fun _ _ _ h => h) (by rfl) (by assumption) ?_ ?_
  rotate_left
  · (intro w _; go_simp; try (with_reducible rfl))
  try simp only [putAtH]
  refine takeH 15 (v := ?_) (by simp only [opsAt]; rfl) (by kernel_rfl) (by exact fun _ _ _ h => h) (by rfl) (by assumption) ?_ ?_
  rotate_left
  · (intro w _; go_simp; try (with_reducible rfl))
  try simp only [putAtH]
  refine takeH 16 (v := ?_) (by simp only [opsAt]; rfl) (by kernel_rfl) (by exact fun _ _ _ h => h) (by rfl) (by assumption) ?_ ?_
  rotate_left
  · (intro w _; go_simp; try (with_reducible rfl))
  try simp only [putAtH]
  refine takeH 17 (v := ?_) (by simp only [opsAt]; rfl) (by kernel_rfl) (by exact fun _ _ _ h => h) (by rfl) (by assumption) ?_ ?_
  rotate_left
  · (intro w _; go_simp; try (with_reducible rfl))
  try simp only [putAtH]
  refine takeH 18 (v := ?_) (by simp only [opsAt]; rfl) (by kernel_rfl) (by exact fun _ _ _ h => h) (by rfl) (by assumption) ?_ ?_
  rotate_left
  · (intro w _; go_simp; try (with_reducible rfl))
  try simp only [putAtH]
  refine takeH 19 (v := ?_) (by simp only [opsAt]; rfl) (by kernel_rfl) (by exact fun _ _ _ h => h) (by rfl) (by assumption) ?_ ?_
  rotate_left
  · (intro w _; go_simp; try (with_reducible rfl))
  try simp only [putAtH]
  refine takeH 20 (v := ?_) (by simp only [opsAt]; rfl) (by kernel_rfl) (by exact fun _ _ _ h => h) (by rfl) (by assumption) ?_ ?_
  rotate_left
  · (intro w _; go_simp; try (with_reducible rfl))
  try simp only [putAtH]
  refine takeH 21 (v := ?_) (by simp only [opsAt]; rfl) (by kernel_rfl) (by exact fun _ _ _ h => h) (by rfl) (by assumption) ?_ ?_
  rotate_left
  · (intro w _; go_simp; try (with_reducible rfl))
  try simp only [putAtH]
  refine takeH 22 (v := ?_) (by simp only [opsAt]; rfl) (by kernel_rfl) (by exact fun _ _ _ h => h) (by rfl) (by assumption) ?_ ?_
  rotate_left
  · (intro w _; go_simp; try (with_reducible rfl))
  try simp only [putAtH]
  refine takeH 23 (v := ?_) (by simp only [opsAt]; rfl) (by kernel_rfl) (by exact fun _ _ _ h => h) (by rfl) (by assumption) ?_ ?_
  rotate_left
  · (intro w _; go_simp; try (with_reducible rfl))
  try simp only [putAtH]
  refine takeH 24 (v := ?_) (by simp only [opsAt]; rfl) (by kernel_rfl) (by exact fun _ _ _ h => h) (by rfl) (by assumption) ?_ ?_
  rotate_left
  · (intro w _; go_simp; try (with_reducible rfl))
  try simp only [putAtH]
  refine takeH 25 (v := ?_) (by simp only [opsAt]; rfl) (by kernel_rfl) (by exact fun _ _ _ h => h) (by rfl) (by assumption) ?_ ?_
  rotate_left
  · (intro w _; go_simp; try (with_reducible rfl))
  try simp only [putAtH]
  refine takeH 26 (v := ?_) (by simp only [opsAt]; rfl) (by kernel_rfl) (by exact fun _ _ _ h => h) (by rfl) (by assumption) ?_ ?_
  rotate_left
  · (intro w _; go_simp; try (with_reducible rfl))
  try simp only [putAtH]
  refine wpAnyH_done (by kernel_rfl) ?_ _
  go_wp2
  go_ret
  exact ⟨by rw [Hr.out]; rfl, kW.trans K5.drew⟩
end Go.Proofs.Ytfbjnhifjingeaa
namespace Go.Proofs.Ytfbjnhifjingeaa
open Go.RowKit
attribute [local go_sem] Keeps.refl Keeps.alloc Keeps.drew Keeps.drewN

def SaysSameCpu : Prop := ∀ (w : World) (v : Sv) (s : Sy) (i no : Int), SysOn w v s → Calls Try.prog 21 #[.agg (syc s v), .int .i64 i, .int .i64 no] w fun e w' => e = .returned (.bool (sameB s i no)) ∧ Keeps w w'
def SaysFloorOn : Prop := ∀ (w : World) (v : Sv) (s : Sy) (cpu : Int), SysOn w v s → Calls Try.prog 23 #[.agg (syc s v), .int .i64 cpu] w fun e w' => e = .returned (.int .i64 (floorI s cpu)) ∧ Keeps w w'

set_option maxRecDepth 100000 in
set_option maxHeartbeats 8000000 in
theorem exactFloorOn_walk (H : SaysFloorOn) {p : Bool} {w : World} {v : Sv} {s : Sy} (h : SysLay p w v s) (cpu : Int) :
    Calls Try.prog 6 #[.agg (syc s v), .int .i64 cpu] w fun e w' => e = .returned (.bool true) ∧ Keeps w w' := by
  have HH : Hid SaysFloorOn := H
  clear H
  have kW : Keeps w (w.alloc (.cells (syc s v) 39)) := (Keeps.refl w).alloc _
  have r0 : ∀ w', Keeps (w.alloc (.cells (syc s v) 39)) w' → ∀ j, w'.cell? ⟨w.heap.size, j, none⟩ = (syc s v)[j]? := fun w' k => ((Blk.new w (syc s v) 39).keeps k).cells
  have HS : Hid (SysLay p (w.alloc (.cells (syc s v) 39)) v s) := h.keeps kW
  clear h
  obtain ⟨g, Hg⟩ : ∃ g, Hid (floorI s cpu = g) := ⟨_, rfl⟩
  have n0 : (g != g) = false := by simp
  go_enter Try.func6, Try.ntmps6
  go_wp2_with fail
  generalize w.alloc (.cells (syc s v) 39) = W at *
  refine (szSys_any HS.out).mono ?_
  rintro e w1 ⟨rfl, k1⟩
  by_cases hz : sizeS s ≤ 1048576
  rotate_left
  · have Hz : Hid (szSysL s 1048576 = -1) := if_neg (by omega)
    rw [Hz.out]
    go_wp2
    go_ret
    exact ⟨rfl, kW.trans k1⟩
  have Hz : Hid (sizeS s ≤ 1048576) := hz
  obtain ⟨q, Hq, hq0⟩ : ∃ q : Int, Hid (szSysL s 1048576 = q) ∧ 0 ≤ q := ⟨_, rfl, by unfold szSysL; rw [if_pos (by omega)]; omega⟩
  rw [Hq.out]
  have hq : decide (q < 0) = false := by simp; omega
  clear hz Hq
  go_wp2_with fail
  refine (toSys_any (HS.out.keeps k1) Hz.out).mono ?_
  rintro e w2 ⟨v2, vs2, rfl, O2, k2⟩
  have S2 : Hid (SysOn w2 v2 s) := O2.on (by have := Hz.out; omega)
  have K2 : Keeps W w2 := k1.trans k2
  clear O2 k1 k2
  go_wp2_with fail
  refine (specFloorOn_any S2.out cpu).mono ?_
  rintro e w3 ⟨rfl, k3⟩
  rw [Hg.out]
  have K3 : Keeps W w3 := K2.trans k3
  clear S2 K2 k3
  go_wp2_with fail
  refine (toSys_any (HS.out.keeps K3) Hz.out).mono ?_
  rintro e w4 ⟨v4, vs4, rfl, O4, k4⟩
  have S4 : Hid (SysOn (w4.alloc (.cells (syc s v4) 28)) v4 s) := (O4.on (by have := Hz.out; omega)).keeps ((Keeps.refl _).alloc _)
  have K4 : Keeps W (w4.alloc (.cells (syc s v4) 28)) := (K3.trans k4).alloc _
  have rx : ∀ w', Keeps (w4.alloc (.cells (syc s v4) 28)) w' → ∀ j, w'.cell? ⟨w4.heap.size, j, none⟩ = (syc s v4)[j]? := fun w' k => ((Blk.new w4 (syc s v4) 28).keeps k).cells
  have r1 : ∀ w', Keeps (w4.alloc (.cells (syc s v4) 28)) w' → ∀ j, w'.cell? ⟨w.heap.size, j, none⟩ = (syc s v)[j]? := fun w' k => r0 w' (K4.trans k)
  clear O4 k4 K3
  go_wp2_with fail
  change Calls _ _ _ (w4.alloc (.cells (syc s v4) 28)) _
  generalize w4.alloc (.cells (syc s v4) 28) = X at *
  refine (HH.out X v4 s cpu S4.out).mono ?_
  rintro e w5 ⟨rfl, k5⟩
  rw [Hg.out]
  clear r0
  go_wp2_with fail
  refine wp_region_held_drew (S := (fun w' => Keeps X w')) (by kernel_rfl) ?_ (fun hHeld => ?_)
  · exact k5.drew
  refine takeH 0 (v := ?_) (by simp only [opsAt]; rfl) (by kernel_rfl) (by exact fun _ _ _ h => h) (by rfl) (by assumption) ?_ ?_
  rotate_left
  · (intro w _; go_simp; try (with_reducible rfl))
  try simp only [putAtH]
  refine takeH 1 (v := ?_) (by simp only [opsAt]; rfl) (by kernel_rfl) (by exact fun _ _ _ h => h) (by rfl) (by assumption) ?_ ?_
  rotate_left
  · (intro w _; go_simp; try (with_reducible rfl))
  try simp only [putAtH]
  refine callH 2 (by kernel_rfl) (by simp only [opsAt]; rfl) (fun K hK => ?_)
  go_simp
  first
    | (go_at_call 15; refine (toSys_any (HS.out.keeps (K4.trans k5.drew)) Hz.out).mono ?_; rintro e w6 ⟨v6, vs6, rfl, O6, k6⟩; have S6 : Hid (SysOn w6 v6 s) := O6.on (by have := Hz.out; omega); clear O6)
    | (go_at_call 10; refine (eqSys_same (S4.out.lay.keeps (k5.drew.trans k6)) S6.out.lay).mono ?_; rintro e w7 ⟨rfl, k7⟩)
  try go_wp2_with fail
  refine hK.out _ _ ?_ (fun hHeld => ?_)
  · exact Keeps.trans (by assumption) (by assumption)
  clear hK K
  try simp only [putAtH]
  refine callH 3 (by kernel_rfl) (by simp only [opsAt]; rfl) (fun K hK => ?_)
  go_simp
  first
    | (go_at_call 15; refine (toSys_any (HS.out.keeps (K4.trans k5.drew)) Hz.out).mono ?_; rintro e w6 ⟨v6, vs6, rfl, O6, k6⟩; have S6 : Hid (SysOn w6 v6 s) := O6.on (by have := Hz.out; omega); clear O6)
    | (go_at_call 10; refine (eqSys_same (S4.out.lay.keeps (k5.drew.trans k6)) S6.out.lay).mono ?_; rintro e w7 ⟨rfl, k7⟩)
  try go_wp2_with fail
  refine hK.out _ _ ?_ (fun hHeld => ?_)
  · exact Keeps.trans (by assumption) (by assumption)
  clear hK K
  try simp only [putAtH]
  refine takeH 4 (v := ?_) (by simp only [opsAt]; rfl) (by kernel_rfl) (by exact fun _ _ _ h => h) (by rfl) (by assumption) ?_ ?_
  rotate_left
  · (intro w _; go_simp; try (with_reducible rfl))
  try simp only [putAtH]
  refine wpAnyH_done (by kernel_rfl) ?_ _
  have K7 : Keeps X w7 := by assumption
  go_wp2
  go_ret
  exact ⟨rfl, kW.trans (K4.trans K7)⟩
set_option maxRecDepth 100000 in
set_option maxHeartbeats 8000000 in
theorem exactSameCpu_walk (H : SaysSameCpu) {p : Bool} {w : World} {v : Sv} {s : Sy} (h : SysLay p w v s) (i no : Int) :
    Calls Try.prog 5 #[.agg (syc s v), .int .i64 i, .int .i64 no] w fun e w' => e = .returned (.bool true) ∧ Keeps w w' := by
  have HH : Hid SaysSameCpu := H
  clear H
  have kW : Keeps w (w.alloc (.cells (syc s v) 39)) := (Keeps.refl w).alloc _
  have r0 : ∀ w', Keeps (w.alloc (.cells (syc s v) 39)) w' → ∀ j, w'.cell? ⟨w.heap.size, j, none⟩ = (syc s v)[j]? := fun w' k => ((Blk.new w (syc s v) 39).keeps k).cells
  have HS : Hid (SysLay p (w.alloc (.cells (syc s v) 39)) v s) := h.keeps kW
  clear h
  obtain ⟨g, Hg⟩ : ∃ g, Hid (sameB s i no = g) := ⟨_, rfl⟩
  have n0 : (g != g) = false := by simp
  go_enter Try.func5, Try.ntmps5
  go_wp2_with fail
  generalize w.alloc (.cells (syc s v) 39) = W at *
  refine (szSys_any HS.out).mono ?_
  rintro e w1 ⟨rfl, k1⟩
  by_cases hz : sizeS s ≤ 1048576
  rotate_left
  · have Hz : Hid (szSysL s 1048576 = -1) := if_neg (by omega)
    rw [Hz.out]
    go_wp2
    go_ret
    exact ⟨rfl, kW.trans k1⟩
  have Hz : Hid (sizeS s ≤ 1048576) := hz
  obtain ⟨q, Hq, hq0⟩ : ∃ q : Int, Hid (szSysL s 1048576 = q) ∧ 0 ≤ q := ⟨_, rfl, by unfold szSysL; rw [if_pos (by omega)]; omega⟩
  rw [Hq.out]
  have hq : decide (q < 0) = false := by simp; omega
  clear hz Hq
  go_wp2_with fail
  refine (toSys_any (HS.out.keeps k1) Hz.out).mono ?_
  rintro e w2 ⟨v2, vs2, rfl, O2, k2⟩
  have S2 : Hid (SysOn w2 v2 s) := O2.on (by have := Hz.out; omega)
  have K2 : Keeps W w2 := k1.trans k2
  clear O2 k1 k2
  go_wp2_with fail
  refine (specSameCpu_any S2.out i no).mono ?_
  rintro e w3 ⟨rfl, k3⟩
  rw [Hg.out]
  have K3 : Keeps W w3 := K2.trans k3
  clear S2 K2 k3
  go_wp2_with fail
  refine (toSys_any (HS.out.keeps K3) Hz.out).mono ?_
  rintro e w4 ⟨v4, vs4, rfl, O4, k4⟩
  have S4 : Hid (SysOn (w4.alloc (.cells (syc s v4) 28)) v4 s) := (O4.on (by have := Hz.out; omega)).keeps ((Keeps.refl _).alloc _)
  have K4 : Keeps W (w4.alloc (.cells (syc s v4) 28)) := (K3.trans k4).alloc _
  have rx : ∀ w', Keeps (w4.alloc (.cells (syc s v4) 28)) w' → ∀ j, w'.cell? ⟨w4.heap.size, j, none⟩ = (syc s v4)[j]? := fun w' k => ((Blk.new w4 (syc s v4) 28).keeps k).cells
  have r1 : ∀ w', Keeps (w4.alloc (.cells (syc s v4) 28)) w' → ∀ j, w'.cell? ⟨w.heap.size, j, none⟩ = (syc s v)[j]? := fun w' k => r0 w' (K4.trans k)
  clear O4 k4 K3
  go_wp2_with fail
  change Calls _ _ _ (w4.alloc (.cells (syc s v4) 28)) _
  generalize w4.alloc (.cells (syc s v4) 28) = X at *
  refine (HH.out X v4 s i no S4.out).mono ?_
  rintro e w5 ⟨rfl, k5⟩
  rw [Hg.out]
  clear r0
  go_wp2_with fail
  refine wp_region_held_drew (S := (fun w' => Keeps X w')) (by kernel_rfl) ?_ (fun hHeld => ?_)
  · exact k5.drew
  refine takeH 0 (v := ?_) (by simp only [opsAt]; rfl) (by kernel_rfl) (by exact fun _ _ _ h => h) (by rfl) (by assumption) ?_ ?_
  rotate_left
  · (intro w _; go_simp; try (with_reducible rfl))
  try simp only [putAtH]
  refine takeH 1 (v := ?_) (by simp only [opsAt]; rfl) (by kernel_rfl) (by exact fun _ _ _ h => h) (by rfl) (by assumption) ?_ ?_
  rotate_left
  · (intro w _; go_simp; try (with_reducible rfl))
  try simp only [putAtH]
  refine callH 2 (by kernel_rfl) (by simp only [opsAt]; rfl) (fun K hK => ?_)
  go_simp
  first
    | (go_at_call 15; refine (toSys_any (HS.out.keeps (K4.trans k5.drew)) Hz.out).mono ?_; rintro e w6 ⟨v6, vs6, rfl, O6, k6⟩; have S6 : Hid (SysOn w6 v6 s) := O6.on (by have := Hz.out; omega); clear O6)
    | (go_at_call 10; refine (eqSys_same (S4.out.lay.keeps (k5.drew.trans k6)) S6.out.lay).mono ?_; rintro e w7 ⟨rfl, k7⟩)
  try go_wp2_with fail
  refine hK.out _ _ ?_ (fun hHeld => ?_)
  · exact Keeps.trans (by assumption) (by assumption)
  clear hK K
  try simp only [putAtH]
  refine callH 3 (by kernel_rfl) (by simp only [opsAt]; rfl) (fun K hK => ?_)
  go_simp
  first
    | (go_at_call 15; refine (toSys_any (HS.out.keeps (K4.trans k5.drew)) Hz.out).mono ?_; rintro e w6 ⟨v6, vs6, rfl, O6, k6⟩; have S6 : Hid (SysOn w6 v6 s) := O6.on (by have := Hz.out; omega); clear O6)
    | (go_at_call 10; refine (eqSys_same (S4.out.lay.keeps (k5.drew.trans k6)) S6.out.lay).mono ?_; rintro e w7 ⟨rfl, k7⟩)
  try go_wp2_with fail
  refine hK.out _ _ ?_ (fun hHeld => ?_)
  · exact Keeps.trans (by assumption) (by assumption)
  clear hK K
  try simp only [putAtH]
  refine takeH 4 (v := ?_) (by simp only [opsAt]; rfl) (by kernel_rfl) (by exact fun _ _ _ h => h) (by rfl) (by assumption) ?_ ?_
  rotate_left
  · (intro w _; go_simp; try (with_reducible rfl))
  try simp only [putAtH]
  refine wpAnyH_done (by kernel_rfl) ?_ _
  have K7 : Keeps X w7 := by assumption
  go_wp2
  go_ret
  exact ⟨rfl, kW.trans (K4.trans K7)⟩
end Go.Proofs.Ytfbjnhifjingeaa
namespace Go.Proofs.Ytfbjnhifjingeaa
open Go.RowKit
attribute [local go_sem] Keeps.refl Keeps.alloc Keeps.drew Keeps.drewN

abbrev OwnR (w : World) (base : Nat) (v : Value) (xs : List Tn) : Prop := Own 91 3 tnc w base v xs
set_option maxRecDepth 100000 in
theorem eqTurnS_n (a a' : Option Addr) (cap cap' n : Nat) (xs : List Tn) (w : World) (hl : n ≤ maxLen) (Hn : Hid (xs.length = n)) (hs : Rs w a xs) (hs' : Rs w a' xs) :
    Calls Try.prog 26 #[.slice a n cap, .slice a' n cap'] w fun e w' => e = .returned (.bool true) ∧ Keeps w w' := by
  have h := eqTurnS_same a a' cap cap' xs w (by rw [Hn.out]; exact hl) hs hs'
  rw [Hn.out] at h
  exact h
theorem lastsL_le (s : Sy) : (lastsL s).length ≤ sizeS s := by
  unfold lastsL sizeS
  simp
  omega
def SaysLastTurns : Prop := ∀ (w : World) (v : Sv) (s : Sy), SysOn w v s → -9223372036854775808 ≤ s.cpus ∧ s.cpus ≤ 9223372036854775807 → Calls Try.prog 25 #[.agg (syc s v)] w fun e w' => ∃ u, e = .returned u ∧ OwnR w' w.heap.size u (lastsL s) ∧ Keeps w w'

set_option maxRecDepth 100000 in
set_option maxHeartbeats 8000000 in
theorem exactLastTurns_walk (H : SaysLastTurns) {p : Bool} {w : World} {v : Sv} {s : Sy} (h : SysLay p w v s) (hr : -9223372036854775808 ≤ s.cpus ∧ s.cpus ≤ 9223372036854775807) :
    Calls Try.prog 7 #[.agg (syc s v)] w fun e w' => e = .returned (.bool true) ∧ Keeps w w' := by
  have HH : Hid SaysLastTurns := H
  have HR : Hid (-9223372036854775808 ≤ s.cpus ∧ s.cpus ≤ 9223372036854775807) := hr
  clear hr
  clear H
  have kW : Keeps w (w.alloc (.cells (syc s v) 39)) := (Keeps.refl w).alloc _
  have r0 : ∀ w', Keeps (w.alloc (.cells (syc s v) 39)) w' → ∀ j, w'.cell? ⟨w.heap.size, j, none⟩ = (syc s v)[j]? := fun w' k => ((Blk.new w (syc s v) 39).keeps k).cells
  have HS : Hid (SysLay p (w.alloc (.cells (syc s v) 39)) v s) := h.keeps kW
  clear h
  obtain ⟨N, HN⟩ : ∃ N, Hid (lastsL s = N) := ⟨_, rfl⟩
  obtain ⟨n, Hn⟩ : ∃ n, Hid (N.length = n) := ⟨_, rfl⟩
  go_enter Try.func7, Try.ntmps7
  go_wp2_with fail
  generalize w.alloc (.cells (syc s v) 39) = W at *
  refine (szSys_any HS.out).mono ?_
  rintro e w1 ⟨rfl, k1⟩
  by_cases hz : sizeS s ≤ 1048576
  rotate_left
  · have Hz : Hid (szSysL s 1048576 = -1) := if_neg (by omega)
    rw [Hz.out]
    go_wp2
    go_ret
    exact ⟨rfl, kW.trans k1⟩
  have Hz : Hid (sizeS s ≤ 1048576) := hz
  obtain ⟨q, Hq, hq0⟩ : ∃ q : Int, Hid (szSysL s 1048576 = q) ∧ 0 ≤ q := ⟨_, rfl, by unfold szSysL; rw [if_pos (by omega)]; omega⟩
  rw [Hq.out]
  have hq : decide (q < 0) = false := by simp; omega
  have hn : n ≤ 1048576 := by have h1 := Hn.out; have h2 := Hz.out; rw [← HN.out] at h1; have h3 := lastsL_le s; omega
  have Hm : Hid (n ≤ maxLen) := by show _ ≤ _; unfold maxLen; omega
  obtain ⟨E, HE, hE⟩ : ∃ E : Int, Hid (marksEnd 1 s = E) ∧ 1 ≤ E := ⟨_, rfl, marksEnd_pos s⟩
  have e1 : decide (E < 0) = false := by simp; omega
  obtain ⟨F, HF, hF⟩ : ∃ F : Int, Hid (1 + 3 * (n : Int) = F) ∧ 1 ≤ F := ⟨_, rfl, by omega⟩
  have f0 : (F != F) = false := by simp
  have f1 : decide (F < 0) = false := by simp; omega
  clear hz Hq
  go_wp2_with fail
  refine (toSys_any (HS.out.keeps k1) Hz.out).mono ?_
  rintro e w2 ⟨v2, vs2, rfl, O2, k2⟩
  have S2 : Hid (SysOn w2 v2 s) := O2.on (by have := Hz.out; omega)
  have K2 : Keeps W w2 := k1.trans k2
  clear O2 k1 k2
  go_wp2_with fail
  refine (specLastTurns_any S2.out HR.out.2).mono ?_
  rintro e w3 ⟨u0, rfl, P0, k3⟩
  rw [HN.out] at P0
  obtain ⟨a0, cap0, rfl, L0, -, -⟩ := P0.slice tnc_size
  rw [Hn.out]
  have L0H : Hid (Rs w3 a0 N) := L0
  have K3 : Keeps W w3 := K2.trans k3
  clear S2 K2 k3 P0 L0
  go_wp2_with fail
  refine (toSys_any (HS.out.keeps K3) Hz.out).mono ?_
  rintro e w4 ⟨v4, vs4, rfl, O4, k4⟩
  have O4X : Hid (OwnS (w4.alloc (.cells (syc s v4) 28)) w3.heap.size v4 vs4 s) := O4.keeps ((Keeps.refl _).alloc _)
  have K4 : Keeps w3 (w4.alloc (.cells (syc s v4) 28)) := k4.alloc _
  have rx : ∀ w', Keeps (w4.alloc (.cells (syc s v4) 28)) w' → ∀ j, w'.cell? ⟨w4.heap.size, j, none⟩ = (syc s v4)[j]? := fun w' k => ((Blk.new w4 (syc s v4) 28).keeps k).cells
  have r1 : ∀ w', Keeps (w4.alloc (.cells (syc s v4) 28)) w' → ∀ j, w'.cell? ⟨w.heap.size, j, none⟩ = (syc s v)[j]? := fun w' k => r0 w' ((K3.trans K4).trans k)
  have R0 : Hid (∀ w', Keeps W w' → ∀ j, w'.cell? ⟨w.heap.size, j, none⟩ = (syc s v)[j]?) := r0
  clear O4 k4
  go_wp2_with fail
  change Calls _ _ _ (w4.alloc (.cells (syc s v4) 28)) _
  generalize w4.alloc (.cells (syc s v4) 28) = X at *
  generalize w4.heap.size = b4 at *
  have S4 : Hid (SysOn X v4 s) := O4X.out.on (by have := Hz.out; omega)
  refine (HH.out X v4 s S4.out HR.out).mono ?_
  rintro e w5 ⟨u1, rfl, P1, k5⟩
  rw [HN.out] at P1
  obtain ⟨a1, cap1, e1', L1, -, -⟩ := P1.slice tnc_size
  subst e1'
  rw [Hn.out] at P1 ⊢
  have P1H : Hid (OwnR w5 X.heap.size (.slice a1 n cap1) N) := P1
  clear P1 r0
  go_wp2_with fail
  refine (eqTurnS_n a1 a0 cap1 cap0 n N w5 Hm.out Hn L1 (L0H.out.keeps (K4.trans k5))).mono ?_
  rintro e w6 ⟨rfl, k6⟩
  have K6 : Keeps X w6 := k5.trans k6
  have P6 : Hid (OwnR w6 X.heap.size (.slice a1 n cap1) N) := P1H.out.keeps k6
  clear k5 k6 L1 P1H
  go_wp2_with fail
  refine wp_region_held_drew (S := (fun w' => Keeps X w')) (by kernel_rfl) ?_ (fun hHeld => ?_)
  · exact K6.drew
  refine takeH 0 (v := ?_) (by simp only [opsAt]; rfl) (by kernel_rfl) (by exact fun _ _ _ h => h) (by rfl) (by assumption) ?_ ?_
  rotate_left
  · (intro w _; go_simp; try (with_reducible rfl))
  try simp only [putAtH]
  refine takeH 1 (v := ?_) (by simp only [opsAt]; rfl) (by kernel_rfl) (by exact fun _ _ _ h => h) (by rfl) (by assumption) ?_ ?_
  rotate_left
  · (intro w _; go_simp; try (with_reducible rfl))
  try simp only [putAtH]
  refine callH 2 (by kernel_rfl) (by simp only [opsAt]; rfl) (fun K hK => ?_)
  go_simp
  first
    | (go_at_call 15; refine (toSys_any (HS.out.keeps (K3.trans (K4.trans K6.drew))) Hz.out).mono ?_; rintro e w7 ⟨v7, vs7, rfl, O7, k7⟩; have S7 : Hid (SysOn w7 v7 s) := O7.on (by have := Hz.out; omega); clear O7)
    | (go_at_call 10; refine (eqSys_same (S4.out.lay.keeps (K6.drew.trans k7)) S7.out.lay).mono ?_; rintro e w8 ⟨rfl, k8⟩)
  try go_wp2_with fail
  refine hK.out _ _ ?_ (fun hHeld => ?_)
  · exact Keeps.trans (by assumption) (by assumption)
  clear hK K
  try simp only [putAtH]
  refine callH 3 (by kernel_rfl) (by simp only [opsAt]; rfl) (fun K hK => ?_)
  go_simp
  first
    | (go_at_call 15; refine (toSys_any (HS.out.keeps (K3.trans (K4.trans K6.drew))) Hz.out).mono ?_; rintro e w7 ⟨v7, vs7, rfl, O7, k7⟩; have S7 : Hid (SysOn w7 v7 s) := O7.on (by have := Hz.out; omega); clear O7)
    | (go_at_call 10; refine (eqSys_same (S4.out.lay.keeps (K6.drew.trans k7)) S7.out.lay).mono ?_; rintro e w8 ⟨rfl, k8⟩)
  try go_wp2_with fail
  refine hK.out _ _ ?_ (fun hHeld => ?_)
  · exact Keeps.trans (by assumption) (by assumption)
  clear hK K
  try simp only [putAtH]
  refine takeH 4 (v := ?_) (by simp only [opsAt]; rfl) (by kernel_rfl) (by exact fun _ _ _ h => h) (by rfl) (by assumption) ?_ ?_
  rotate_left
  · (intro w _; go_simp; try (with_reducible rfl))
  try simp only [putAtH]
  refine wpAnyH_done (by kernel_rfl) ?_ _
  have X8 : Keeps X w8 := by assumption
  have K8 : Keeps w6 w8 := ((Keeps.refl w6).drew.trans k7).trans k8
  have P8 : Hid (OwnR w8 X.heap.size (.slice a1 n cap1) N) := P6.out.keeps K8
  have O8 : Hid (OwnS w8 w3.heap.size v4 vs4 s) := O4X.out.keeps X8
  go_wp2_with fail
  refine (markSys_any O8.out Hz.out).mono ?_
  rintro e M ⟨rfl, -, TM⟩
  have KM : Keeps w3 M := TM.past O8.out (K4.trans X8)
  have PM : Hid (OwnR M X.heap.size (.slice a1 n cap1) N) := P8.out.same fun b e => TM.block b (P8.out.ltb b e).2 (fun ⟨i, hi⟩ => by have := (O4X.out.blkLt hi).2; have := (P8.out.ltb b e).1; omega)
  have WX : Hid (w3.heap.size ≤ X.heap.size) := K4.size
  have rm : ∀ w', Keeps M w' → ∀ j, w'.cell? ⟨w.heap.size, j, none⟩ = (syc s v)[j]? := fun w' k => R0.out w' ((K3.trans KM).trans k)
  rw [HE.out]
  clear TM O8 P8 X8 K8 P6 K6 rx r1 S4 O4X S7 k7 k8
  have LM : Rs M a1 N := by
    obtain ⟨a, c, e, l, -, -⟩ := PM.out.slice tnc_size
    simp only [Value.slice.injEq] at e
    obtain ⟨rfl, -, -⟩ := e
    exact l
  go_wp2_with fail
  refine (eqTurnS_n a1 a0 cap1 cap0 n N M Hm.out Hn LM (L0H.out.keeps KM)).mono ?_
  rintro e w9 ⟨rfl, k9⟩
  have P9 : Hid (OwnR w9 X.heap.size (.slice a1 n cap1) N) := PM.out.keeps k9
  go_wp2_with fail
  have M0 := markTurnS_own 1 (by omega) (by omega) (.slice a1 n cap1) N X.heap.size w9 (by have := Hn.out; omega) P9.out
  rw [Hn.out, HF.out] at M0
  refine M0.mono ?_
  rintro e V ⟨rfl, PV, gV⟩
  clear M0
  have KV : Keeps w3 V := (TurnsB.grown gV).keeps (KM.trans k9) fun q hq => by have := (P9.out.ltb q hq).1; have := WX.out; omega
  have rv : ∀ w', Keeps V w' → ∀ j, w'.cell? ⟨w.heap.size, j, none⟩ = (syc s v)[j]? := fun w' k => R0.out w' ((K3.trans KV).trans k)
  have LV : Hid (Rs V a1 (marksR 1 n)) := by
    obtain ⟨a, c, e, l, -, -⟩ := PV.slice tnc_size
    simp only [Value.slice.injEq] at e
    obtain ⟨rfl, -, -⟩ := e
    exact l
  clear PV gV rm KM k9 P9 PM LM
  go_wp2_with fail
  have Q0 := heldTurnS_k 1 (by omega) (by omega) a1 n cap1 V hn LV.out
  rw [HF.out] at Q0
  refine Q0.mono ?_
  rintro e w10 ⟨rfl, k10⟩
  clear Q0
  go_wp2_with fail
  refine (toSys_any (HS.out.keeps (K3.trans (KV.trans k10))) Hz.out).mono ?_
  rintro e w11 ⟨v11, vs11, rfl, O11, k11⟩
  have S11 : Hid (SysOn w11 v11 s) := O11.on (by have := Hz.out; omega)
  have K11 : Keeps V w11 := k10.trans k11
  clear O11 k10 k11
  go_wp2_with fail
  refine (HH.out w11 v11 s S11.out HR.out).mono ?_
  rintro e w12 ⟨u2, rfl, P2, k12⟩
  rw [HN.out] at P2
  obtain ⟨a2, cap2, e2', L2, -, -⟩ := P2.slice tnc_size
  subst e2'
  rw [Hn.out]
  have K12 : Keeps V w12 := K11.trans k12
  clear P2 S11 k12 K11
  go_wp2_with fail
  refine (eqTurnS_n a2 a0 cap2 cap0 n N w12 Hm.out Hn L2 (L0H.out.keeps (KV.trans K12))).mono ?_
  rintro e w13 ⟨rfl, k13⟩
  have K13 : Keeps V w13 := K12.trans k13
  clear k13 K12 L2
  go_wp2_with fail
  have Q0 := heldTurnS_k 1 (by omega) (by omega) a1 n cap1 w13 hn (LV.out.keeps K13)
  rw [HF.out] at Q0
  refine Q0.mono ?_
  rintro e w14 ⟨rfl, k14⟩
  clear Q0
  go_wp2
  go_ret
  exact ⟨rfl, kW.trans (K3.trans (KV.trans (K13.trans k14)))⟩
end Go.Proofs.Ytfbjnhifjingeaa
