/-
  The program's system: floors, whether a task is of the same processor as a lock, new ones, and what is counted on a processor.
-/
import Derived.Test.YtfbjnhifjingeaaGreatDoorGSys5
import Derived.Test.YtfbjnhifjingeaaGreatDoorGSys4
import Derived.Test.YtfbjnhifjingeaaGreatDoorGSys6
import Derived.Test.YtfbjnhifjingeaaGreatDoorGItask2
import Derived.Test.YtfbjnhifjingeaaGreatDoorGIlock2
import Derived.Deep.RegionHeld3
import Derived.RegionTactic
import Derived.BigRegion
namespace Go.Proofs.YtfbjnhifjingeaaGreatDoor
open Go.RowKit
attribute [local go_sem] Keeps.refl Keeps.alloc Keeps.drew Keeps.drewN

set_option maxRecDepth 100000 in
theorem OnT.mTaskAt {w w' : World} {a : Option Addr} {n cap : Nat} {ts : List Tsk} (h : OnT w a n cap ts) (x : Int) {z : Int} (hz : atFrom ts x = z) (k : Keeps w w') : Calls Tryz.prog 99 #[.slice a n cap, .int .i64 x] w' fun e w'' => e = .returned (.int .i64 z) ∧ Keeps w' w'' := by
  have := implTaskAt_says a cap ts x w' h.small (h.keeps k).lies
  rw [h.len, hz] at this
  exact this

set_option maxRecDepth 100000 in
set_option maxHeartbeats 8000000 in
theorem implSameCpu_says : SaysSameCpu := by
  intro w v s i no h
  have hm : v.t.n ≤ 2000000 ∧ v.l.n ≤ 2000000 := by have := h.size; have := h.lay.ll; have := h.lay.tl; have := len_le_size s.locks; unfold sizeS at *; omega
  obtain ⟨hm1, hm2⟩ := hm
  have kW : Keeps w (w.alloc (.cells (syc s v) 36)) := (Keeps.refl w).alloc _
  have hb : ∀ w', Keeps (w.alloc (.cells (syc s v) 36)) w' → ∀ j, w'.cell? ⟨w.heap.size, j, none⟩ = (syc s v)[j]? := fun w' k => ((Blk.new w (syc s v) 36).keeps k).cells
  have hT : Hid (OnT (w.alloc (.cells (syc s v) 36)) v.t.a v.t.n v.t.cap s.tasks) := h.onT.keeps kW
  have hL : Hid (On (w.alloc (.cells (syc s v) 36)) v.l.a v.l.n v.l.cap s.locks) := h.onL.keeps kW
  have HE : Hid (sameB s i no = (inB i 0 ((v.l.n : Int) - 1) && (thereB s.tasks no && (ownerAt s.locks i.toNat == 0 || (thereB s.tasks (ownerAt s.locks i.toNat) && (tAt s.tasks (ownerAt s.locks i.toNat)).cpu == (tAt s.tasks no).cpu))))) := by show _ = _; unfold sameB; rw [hL.out.len]
  clear h
  obtain ⟨pa, Hpa⟩ : ∃ pa, Hid (atFrom s.tasks no = pa) := ⟨_, rfl⟩
  go_enter Tryz.func82, Tryz.ntmps82
  go_wp2_with fail
  generalize w.alloc (.cells (syc s v) 36) = W at *
  refine (hT.out.mTaskAt no Hpa.out (Keeps.refl _)).mono ?_
  rintro e w1 ⟨rfl, k1⟩
  cases c2 : decide (pa < 0)
  rotate_left
  · have Hr : Hid (sameB s i no = false) := by show _ = _; rw [HE.out]; unfold thereB; rw [Hpa.out, c2]; simp
    go_wp2
    go_ret
    exact ⟨by rw [Hr.out]; rfl, kW.trans k1⟩
  have hth : thereB s.tasks no = true := by unfold thereB; rw [Hpa.out, c2]; rfl
  obtain ⟨ka, ta, ea, hta, -⟩ := thereB_iff.1 hth
  have Hta : Hid (tAt s.tasks no = ta) := tAt_of ea hta
  obtain rfl : pa = (ka : Int) := by rw [← Hpa.out]; exact ea
  have HLa : Hid (∀ w', Calls Tryz.prog 100 #[.slice v.l.a v.l.n v.l.cap, .int .i64 i] w' fun e w'' => e = .returned (.bool (inB i 0 ((v.l.n : Int) - 1))) ∧ w'' = w') := fun w' => hasLock_any v.l.a v.l.cap v.l.n i w' (by unfold maxLen; omega)
  cases c1 : inB i 0 ((v.l.n : Int) - 1)
  · have Hr : Hid (sameB s i no = false) := by show _ = _; rw [HE.out, c1]; rfl
    rw [c1] at HLa
    go_wp2_with (go_at_call 100; refine (HLa.out _).mono ?_; rintro e w' ⟨rfl, hw'⟩; have hw2 := hw'.symm; subst hw2)
    go_ret
    exact ⟨by rw [Hr.out]; rfl, kW.trans k1⟩
  rw [c1] at HLa
  have hka : ka < v.t.n := by have := lt_of_some hta; rw [hT.out.len] at this; exact this
  have hkai : (ka : Int) < (v.t.n : Int) := by omega
  obtain ⟨bt, ot, hat, rt⟩ := hT.out.all (by omega)
  have ra : ∀ w', Keeps W w' → w'.cell? ⟨bt, ot + ka * 14 + 2, none⟩ = some (.int .i64 ta.cpu) := fun w' h => (rt ka ta hta).2 w' h 2 (by omega)
  have RT : Hid (∀ (i : Nat) (t : Tsk), s.tasks[i]? = some t → ∀ w', Keeps W w' → w'.cell? ⟨bt, ot + i * 14 + 2, none⟩ = some (.int .i64 t.cpu)) := fun i t ht w' h => (rt i t ht).2 w' h 2 (by omega)
  obtain ⟨i0, i1⟩ := inB_iff.1 c1
  obtain ⟨k, rfl⟩ : ∃ k : Nat, i = (k : Int) := ⟨i.toNat, by omega⟩
  obtain ⟨l, hl⟩ := some_in (xs := s.locks) (k := k) (by rw [hL.out.len]; omega)
  obtain ⟨hkn, b, off, a', cap', ha, r0, -, -, -⟩ := hL.out.at hl
  have hki : (k : Int) < (v.l.n : Int) := by omega
  rw [ha] at HLa
  have HE2 : Hid (sameB s k no = (l.owner == 0 || (thereB s.tasks l.owner && (tAt s.tasks l.owner).cpu == ta.cpu))) := by
    show _ = _
    rw [HE.out, c1, hth, Int.toNat_natCast, ownerAt_of hl, Hta.out]
    rfl
  obtain ⟨po, Hpo⟩ : ∃ po, Hid (atFrom s.tasks l.owner = po) := ⟨_, rfl⟩
  have TA : Hid (∀ w', Keeps W w' → Calls Tryz.prog 99 #[.slice v.t.a v.t.n v.t.cap, .int .i64 l.owner] w' fun e w'' => e = .returned (.int .i64 po) ∧ Keeps w' w'') := fun w' h => hT.out.mTaskAt l.owner Hpo.out h
  rw [hat] at TA
  clear hth ea hta rt Hpa hl HE
  cases c3 : (l.owner == 0)
  rotate_left
  · have Hr : Hid (sameB s k no = true) := by show _ = _; rw [HE2.out, c3]; rfl
    go_wp2_with (go_at_call 100; refine (HLa.out _).mono ?_; rintro e w' ⟨rfl, hw'⟩; have hw2 := hw'.symm; subst hw2)
    go_ret
    exact ⟨by rw [Hr.out]; rfl, kW.trans k1⟩
  go_wp2_with (first
    | (go_at_call 100; refine (HLa.out _).mono ?_; rintro e w' ⟨rfl, hw'⟩; have hw2 := hw'.symm; subst hw2)
    | (go_at_call 99; refine (TA.out _ k1).mono ?_; rintro e w5 ⟨rfl, k5⟩; have K5 := k1.trans k5))
  clear TA
  cases c4 : decide (0 ≤ po)
  · have Hr : Hid (sameB s k no = false) := by
      have : thereB s.tasks l.owner = false := by unfold thereB; rw [Hpo.out]; simp only [decide_eq_false_iff_not] at c4; simp; omega
      show _ = _
      rw [HE2.out, c3, this]; rfl
    refine wp_region_held_drew (S := (fun w' => Keeps W w')) (by kernel_rfl) ?_ (fun hHeld => ?_)
    · exact K5.drew
    refine takeH 0 (v := ?_) (by simp only [opsAt]; rfl) (by kernel_rfl) (by exact fun _ _ _ h => h) (by rfl) (by assumption) ?_ ?_
    rotate_left
    · (intro w _; go_simp; try (with_reducible rfl))
    try simp only [putAtH]
    refine takeH 1 (v := ?_) (by simp only [opsAt]; rfl) (by kernel_rfl) (by exact fun _ _ _ h => h) (by rfl) (by assumption) ?_ ?_
    rotate_left
    · (intro w _; go_simp; try (with_reducible rfl))
    try simp only [putAtH]
    refine takeH 2 (v := ?_) (by simp only [opsAt]; rfl) (by kernel_rfl) (by exact fun _ _ _ h => h) (by rfl) (by assumption) ?_ ?_
    rotate_left
    · (intro w _; go_simp; try (with_reducible rfl))
    try simp only [putAtH]
    refine skipH 3 (by simp only [opsAt]; rfl) (by kernel_rfl) (by exact fun _ _ _ h => h) (by rfl) (by assumption) ?_
    try simp only [putAtH]
    refine skipH 4 (by simp only [opsAt]; rfl) (by kernel_rfl) (by exact fun _ _ _ h => h) (by rfl) (by assumption) ?_
    try simp only [putAtH]
    refine skipH 5 (by simp only [opsAt]; rfl) (by kernel_rfl) (by exact fun _ _ _ h => h) (by rfl) (by assumption) ?_
    try simp only [putAtH]
    refine skipH 6 (by simp only [opsAt]; rfl) (by kernel_rfl) (by exact fun _ _ _ h => h) (by rfl) (by assumption) ?_
    try simp only [putAtH]
    refine skipH 7 (by simp only [opsAt]; rfl) (by kernel_rfl) (by exact fun _ _ _ h => h) (by rfl) (by assumption) ?_
    try simp only [putAtH]
    refine skipH 8 (by simp only [opsAt]; rfl) (by kernel_rfl) (by exact fun _ _ _ h => h) (by rfl) (by assumption) ?_
    try simp only [putAtH]
    refine skipH 9 (by simp only [opsAt]; rfl) (by kernel_rfl) (by exact fun _ _ _ h => h) (by rfl) (by assumption) ?_
    try simp only [putAtH]
    refine skipH 10 (by simp only [opsAt]; rfl) (by kernel_rfl) (by exact fun _ _ _ h => h) (by rfl) (by assumption) ?_
    try simp only [putAtH]
    refine skipH 11 (by simp only [opsAt]; rfl) (by kernel_rfl) (by exact fun _ _ _ h => h) (by rfl) (by assumption) ?_
    try simp only [putAtH]
    refine skipH 12 (by simp only [opsAt]; rfl) (by kernel_rfl) (by exact fun _ _ _ h => h) (by rfl) (by assumption) ?_
    try simp only [putAtH]
    refine skipH 13 (by simp only [opsAt]; rfl) (by kernel_rfl) (by exact fun _ _ _ h => h) (by rfl) (by assumption) ?_
    try simp only [putAtH]
    refine skipH 14 (by simp only [opsAt]; rfl) (by kernel_rfl) (by exact fun _ _ _ h => h) (by rfl) (by assumption) ?_
    try simp only [putAtH]
    refine skipH 15 (by simp only [opsAt]; rfl) (by kernel_rfl) (by exact fun _ _ _ h => h) (by rfl) (by assumption) ?_
    try simp only [putAtH]
    refine takeH 16 (v := ?_) (by simp only [opsAt]; rfl) (by kernel_rfl) (by exact fun _ _ _ h => h) (by rfl) (by assumption) ?_ ?_
    rotate_left
    · (intro w _; go_simp; try (with_reducible rfl))
    try simp only [putAtH]
    refine takeH 17 (v := ?_) (by simp only [opsAt]; rfl) (by kernel_rfl) (by exact fun _ _ _ h => h) (by rfl) (by assumption) ?_ ?_
    rotate_left
    · (intro w _; go_simp; try (with_reducible rfl))
    try simp only [putAtH]
    refine wpAnyH_done (by kernel_rfl) ?_ _
    go_wp2
    go_ret
    exact ⟨by rw [Hr.out]; rfl, kW.trans K5.drew⟩
  have htho : thereB s.tasks l.owner = true := by unfold thereB; rw [Hpo.out]; simp only [decide_eq_true_eq] at c4; simp; omega
  obtain ⟨kx, tx, ex, htx, -⟩ := thereB_iff.1 htho
  have Htx : Hid (tAt s.tasks l.owner = tx) := tAt_of ex htx
  obtain rfl : po = (kx : Int) := by rw [← Hpo.out]; exact ex
  have hkx : kx < v.t.n := by have := lt_of_some htx; rw [hT.out.len] at this; exact this
  have hkxi : (kx : Int) < (v.t.n : Int) := by omega
  have rx : ∀ w', Keeps W w' → w'.cell? ⟨bt, ot + kx * 14 + 2, none⟩ = some (.int .i64 tx.cpu) := fun w' h => RT.out kx tx htx w' h
  have Hr : Hid (sameB s k no = (tx.cpu == ta.cpu)) := by show _ = _; rw [HE2.out, c3, htho, Htx.out]; rfl
  clear htho ex htx Hpo
  refine wp_region_held_drew (S := (fun w' => Keeps W w')) (by kernel_rfl) ?_ (fun hHeld => ?_)
  · exact K5.drew
  refine takeH 0 (v := ?_) (by simp only [opsAt]; rfl) (by kernel_rfl) (by exact fun _ _ _ h => h) (by rfl) (by assumption) ?_ ?_
  rotate_left
  · (intro w _; go_simp; try (with_reducible rfl))
  try simp only [putAtH]
  refine takeH 1 (v := ?_) (by simp only [opsAt]; rfl) (by kernel_rfl) (by exact fun _ _ _ h => h) (by rfl) (by assumption) ?_ ?_
  rotate_left
  · (intro w _; go_simp; try (with_reducible rfl))
  try simp only [putAtH]
  refine takeH 2 (v := ?_) (by simp only [opsAt]; rfl) (by kernel_rfl) (by exact fun _ _ _ h => h) (by rfl) (by assumption) ?_ ?_
  rotate_left
  · (intro w _; go_simp; try (with_reducible rfl))
  try simp only [putAtH]
  refine takeH 3 (v := ?_) (by simp only [opsAt]; rfl) (by kernel_rfl) (by exact fun _ _ _ h => h) (by rfl) (by assumption) ?_ ?_
  rotate_left
  · (intro w _; go_simp; try (with_reducible rfl))
  try simp only [putAtH]
  refine takeH 4 (v := ?_) (by simp only [opsAt]; rfl) (by kernel_rfl) (by exact fun _ _ _ h => h) (by rfl) (by assumption) ?_ ?_
  rotate_left
  · (intro w _; go_simp; try (with_reducible rfl))
  try simp only [putAtH]
  refine takeH 5 (v := ?_) (by simp only [opsAt]; rfl) (by kernel_rfl) (by exact fun _ _ _ h => h) (by rfl) (by assumption) ?_ ?_
  rotate_left
  · (intro w _; go_simp; try (with_reducible rfl))
  try simp only [putAtH]
  refine takeH 6 (v := ?_) (by simp only [opsAt]; rfl) (by kernel_rfl) (by exact fun _ _ _ h => h) (by rfl) (by assumption) ?_ ?_
  rotate_left
  · (intro w _; go_simp; try (with_reducible rfl))
  try simp only [putAtH]
  refine takeH 7 (v := ?_) (by simp only [opsAt]; rfl) (by kernel_rfl) (by exact fun _ _ _ h => h) (by rfl) (by assumption) ?_ ?_
  rotate_left
  · (intro w _; go_simp; try (with_reducible rfl))
  try simp only [putAtH]
  refine takeH 8 (v := ?_) (by simp only [opsAt]; rfl) (by kernel_rfl) (by exact fun _ _ _ h => h) (by rfl) (by assumption) ?_ ?_
  rotate_left
  · (intro w _; go_simp; try (with_reducible rfl))
  try simp only [putAtH]
  refine takeH 9 (v := ?_) (by simp only [opsAt]; rfl) (by kernel_rfl) (by exact fun _ _ _ h => h) (by rfl) (by assumption) ?_ ?_
  rotate_left
  · (intro w _; go_simp; try (with_reducible rfl))
  try simp only [putAtH]
  refine takeH 10 (v := ?_) (by simp only [opsAt]; rfl) (by kernel_rfl) (by exact fun _ _ _ h => h) (by rfl) (by assumption) ?_ ?_
  rotate_left
  · (intro w _; go_simp; try (with_reducible rfl))
  try simp only [putAtH]
  refine takeH 11 (v := ?_) (by simp only [opsAt]; rfl) (by kernel_rfl) (by exact fun _ _ _ h => h) (by rfl) (by assumption) ?_ ?_
  rotate_left
  · (intro w _; go_simp; try (with_reducible rfl))
  try simp only [putAtH]
  refine takeH 12 (v := ?_) (by simp only [opsAt]; rfl) (by kernel_rfl) (by exact fun _ _ _ h => h) (by rfl) (by assumption) ?_ ?_
  rotate_left
  · (intro w _; go_simp; try (with_reducible rfl))
  try simp only [putAtH]
  refine takeH 13 (v := ?_) (by simp only [opsAt]; rfl) (by kernel_rfl) (by exact fun _ _ _ h => h) (by rfl) (by assumption) ?_ ?_
  rotate_left
  · (intro w _; go_simp; try (with_reducible rfl))
  try simp only [putAtH]
  refine takeH 14 (v := ?_) (by simp only [opsAt]; rfl) (by kernel_rfl) (by exact fun _ _ _ h => h) (by rfl) (by assumption) ?_ ?_
  rotate_left
  · (intro w _; go_simp; try (with_reducible rfl))
  try simp only [putAtH]
  refine takeH 15 (v := ?_) (by simp only [opsAt]; rfl) (by kernel_rfl) (by exact fun _ _ _ h => h) (by rfl) (by assumption) ?_ ?_
  rotate_left
  · (intro w _; go_simp; try (with_reducible rfl))
  try simp only [putAtH]
  refine takeH 16 (v := ?_) (by simp only [opsAt]; rfl) (by kernel_rfl) (by exact fun _ _ _ h => h) (by rfl) (by assumption) ?_ ?_
  rotate_left
  · (intro w _; go_simp; try (with_reducible rfl))
  try simp only [putAtH]
  refine takeH 17 (v := ?_) (by simp only [opsAt]; rfl) (by kernel_rfl) (by exact fun _ _ _ h => h) (by rfl) (by assumption) ?_ ?_
  rotate_left
  · (intro w _; go_simp; try (with_reducible rfl))
  try simp only [putAtH]
  refine wpAnyH_done (by kernel_rfl) ?_ _
  go_wp2
  go_ret
  exact ⟨by rw [Hr.out]; rfl, kW.trans K5.drew⟩

set_option maxRecDepth 100000 in
theorem fieldDue (t : Tsk) (w : World) : (Instr.field 149 (.agg (dtc t)) 1).run Tryz.prog w = .ok (.agg #[.int .i64 t.q, .int .i64 t.p, .int .i64 t.left, .int .i64 t.due]) w := by kernel_rfl
set_option maxRecDepth 100000 in
theorem fieldPart (q p l d : Int) (w : World) : (Instr.field 147 (.agg #[.int .i64 q, .int .i64 p, .int .i64 l, .int .i64 d]) 0).run Tryz.prog w = .ok (.agg #[.int .i64 q, .int .i64 p]) w := by kernel_rfl
attribute [local go_sem] fieldDue fieldPart
set_option maxRecDepth 100000 in
set_option maxHeartbeats 4000000 in
theorem implSharesOn_says : SaysSharesOn := by
  intro w v s cpu h
  obtain ⟨⟨ta, tn, tcap⟩, vl, ⟨ga, gn, gcap⟩, vf, vr⟩ := v
  have hm1 : tn ≤ 2000000 := by have h1 := h.size; have h2 : s.tasks.length = tn := h.lay.tl; unfold sizeS at h1; omega
  have hm2 : gn ≤ 2000000 := by have h1 := h.size; have h2 : s.ghosts.length = gn := h.lay.gl; unfold sizeS at h1; omega
  have Hn : Hid (s.tasks.length = tn) := h.lay.tl
  have Hg : Hid (s.ghosts.length = gn) := h.lay.gl
  have kW : Keeps w (w.alloc (.cells (syc s ⟨⟨ta, tn, tcap⟩, vl, ⟨ga, gn, gcap⟩, vf, vr⟩) 36)) := (Keeps.refl w).alloc _
  have hb : ∀ w', Keeps (w.alloc (.cells (syc s ⟨⟨ta, tn, tcap⟩, vl, ⟨ga, gn, gcap⟩, vf, vr⟩) 36)) w' → ∀ j, w'.cell? ⟨w.heap.size, j, none⟩ = (syc s ⟨⟨ta, tn, tcap⟩, vl, ⟨ga, gn, gcap⟩, vf, vr⟩)[j]? := fun w' k => ((Blk.new w (syc s ⟨⟨ta, tn, tcap⟩, vl, ⟨ga, gn, gcap⟩, vf, vr⟩) 36).keeps k).cells
  have hs1 : Hid (Ts (w.alloc (.cells (syc s ⟨⟨ta, tn, tcap⟩, vl, ⟨ga, gn, gcap⟩, vf, vr⟩) 36)) ta s.tasks) := h.lay.t.keeps kW
  have hs2 : Hid (Gs (w.alloc (.cells (syc s ⟨⟨ta, tn, tcap⟩, vl, ⟨ga, gn, gcap⟩, vf, vr⟩) 36)) ga s.ghosts) := h.lay.g.keeps kW
  clear h
  have HE : Hid (sharesL s cpu = (s.tasks.filter (dueOn cpu)).map partT ++ (s.ghosts.filter (ghOn cpu)).map partG) := rfl
  go_enter Tryz.func74, Tryz.ntmps74
  go_wp2
  have HW : Hid (w.heap.size ≤ (w.alloc (.cells (syc s ⟨⟨ta, tn, tcap⟩, vl, ⟨ga, gn, gcap⟩, vf, vr⟩) 36)).heap.size) := kW.size
  generalize w.alloc (.cells (syc s ⟨⟨ta, tn, tcap⟩, vl, ⟨ga, gn, gcap⟩, vf, vr⟩) 36) = W at *
  go_loopw [5, 13] (fun o i wr => ∃ (k : Nat) (xs : List (Int × Int)), k ≤ tn ∧ i = .int .i64 k ∧ xs.length ≤ k ∧ Hid (xs = ((s.tasks.take k).filter (dueOn cpu)).map partT) ∧ Hid (OwnP wr W.heap.size o xs) ∧ Keeps W wr) (fun _ i _ => tn - (intOf i).toNat)
  case atStart => exact ⟨0, [], Nat.zero_le _, rfl, by simp, by show _ = _; simp, World.ownsRow_nil _ _ _ _, Keeps.refl _⟩
  case round =>
    obtain ⟨k, xs, hk, rfl, hxl, HX, O, hK⟩ := hrel
    by_cases hlt : k < tn
    · obtain ⟨t, ht⟩ := some_in (xs := s.tasks) (k := k) (by rw [Hn.out]; exact hlt)
      obtain ⟨b, off, rfl, r0, r1⟩ := hs1.out.at ht (by omega)
      have hlt' : (k : Int) < (tn : Int) := by omega
      have Hstep := filter_snoc (dueOn cpu) partT ht
      rw [← HX.out] at Hstep
      have HS : Hid (((s.tasks.take (k + 1)).filter (dueOn cpu)).map partT = xs ++ (if dueOn cpu t then [partT t] else [])) := Hstep
      clear ht Hstep
      cases c1 : (t.cls == 1)
      · have Hx : Hid (xs = ((s.tasks.take (k + 1)).filter (dueOn cpu)).map partT) := by show _ = _; rw [HS.out]; simp [dueOn, c1]
        go_wp2
        exact ⟨⟨k + 1, xs, by omega, by go_num, by omega, Hx, O.out.keeps ((Keeps.refl _).alloc _), hK.alloc _⟩, by simp only [intOf]; omega⟩
      cases c2 : (t.cpu == cpu)
      · have Hx : Hid (xs = ((s.tasks.take (k + 1)).filter (dueOn cpu)).map partT) := by show _ = _; rw [HS.out]; simp [dueOn, c1, c2]
        go_wp2
        exact ⟨⟨k + 1, xs, by omega, by go_num, by omega, Hx, O.out.keeps ((Keeps.refl _).alloc _), hK.alloc _⟩, by simp only [intOf]; omega⟩
      have Hx : Hid (xs ++ [(t.q, t.p)] = ((s.tasks.take (k + 1)).filter (dueOn cpu)).map partT) := by show _ = _; rw [HS.out]; simp [dueOn, c1, c2, partT]
      go_wp2_with (first
        | (go_at_call 86; refine (dueTaskOf_any t _).mono ?_; rintro e w4 ⟨rfl, k4⟩; have K4 : Keeps wr w4 := ((Keeps.refl wr).alloc _).trans k4; clear k4)
        | (at_builtin; (refine wpList_push rfl _ _ 50 rfl W 77 (.agg (pc (0, 0))) 2 16 pc Tryz.underlying50 (by kernel_rfl) rfl (by decide) pc_size pc_one _ xs rfl wr O.out hK (K4.alloc _) (t.q, t.p) _ 1 (Blk.new _ _ _) rfl ?c1 ?c2 ?_)))
      case c1 => unfold maxLen; omega
      case c2 => omega
      intro v' w5 own5 k5 _
      have HO : Hid (OwnP w5 W.heap.size v' (xs ++ [(t.q, t.p)])) := own5
      clear own5 O
      go_wp2
      exact ⟨⟨k + 1, xs ++ [(t.q, t.p)], by omega, by go_num, by simp; omega, Hx, HO, k5⟩, by simp only [intOf]; omega⟩
    · have hlt' : decide ((k : Int) < (tn : Int)) = false := by simp; omega
      have HP : Hid ((s.tasks.filter (dueOn cpu)).map partT = xs) := by
        have h1 := HX.out
        rw [List.take_of_length_le (by have := Hn.out; omega)] at h1
        exact h1.symm
      clear HX
      go_wp2
      generalize wr = V at *
      go_loopw [5, 37] (fun o i wr => ∃ (j : Nat) (ys : List (Int × Int)), j ≤ gn ∧ i = .int .i64 j ∧ ys.length ≤ tn + j ∧ Hid (ys = xs ++ ((s.ghosts.take j).filter (ghOn cpu)).map partG) ∧ Hid (OwnP wr W.heap.size o ys) ∧ Keeps W wr) (fun _ i _ => gn - (intOf i).toNat)
      case atStart => exact ⟨0, xs, Nat.zero_le _, rfl, by omega, by show _ = _; simp, O, hK⟩
      case round =>
        obtain ⟨j, ys, hj, rfl, hyl, HY, O2, hK2⟩ := hrel
        clear O hK
        by_cases hjt : j < gn
        · obtain ⟨g, hg⟩ := some_in (xs := s.ghosts) (k := j) (by rw [Hg.out]; exact hjt)
          obtain ⟨b, off, rfl, r0, r1⟩ := hs2.out.at hg (by omega)
          have hjt' : (j : Int) < (gn : Int) := by omega
          have HS : Hid (xs ++ ((s.ghosts.take (j + 1)).filter (ghOn cpu)).map partG = ys ++ (if ghOn cpu g then [partG g] else [])) := by
            show _ = _
            rw [filter_snoc (ghOn cpu) partG hg, HY.out, List.append_assoc]
          clear hg
          cases c1 : (g.cpu == cpu)
          · have Hx : Hid (ys = xs ++ ((s.ghosts.take (j + 1)).filter (ghOn cpu)).map partG) := by show _ = _; rw [HS.out]; simp [ghOn, c1]
            go_wp2
            exact ⟨⟨j + 1, ys, by omega, by go_num, by omega, Hx, O2.out.keeps ((Keeps.refl _).alloc _), hK2.alloc _⟩, by simp only [intOf]; omega⟩
          have Hx : Hid (ys ++ [(g.q, g.p)] = xs ++ ((s.ghosts.take (j + 1)).filter (ghOn cpu)).map partG) := by show _ = _; rw [HS.out]; simp [ghOn, c1, partG]
          go_wp2_with (at_builtin; (refine wpList_push rfl _ _ 50 rfl W 77 (.agg (pc (0, 0))) 2 16 pc Tryz.underlying50 (by kernel_rfl) rfl (by decide) pc_size pc_one _ ys rfl wr O2.out hK2 (((Keeps.refl _).alloc _).alloc _) (g.q, g.p) (wr.heap.size + 1) 1 (by have := Blk.new (wr.alloc (.cells (ghc g) 79)) (pc (g.q, g.p)) 77; simpa using this) rfl ?c1 ?c2 ?_))
          case c1 => unfold maxLen; omega
          case c2 => omega
          intro v' w5 own5 k5 _
          have HO : Hid (OwnP w5 W.heap.size v' (ys ++ [(g.q, g.p)])) := own5
          clear own5 O2
          go_wp2
          exact ⟨⟨j + 1, ys ++ [(g.q, g.p)], by omega, by go_num, by simp; omega, Hx, HO, k5⟩, by simp only [intOf]; omega⟩
        · have hjt' : decide ((j : Int) < (gn : Int)) = false := by simp; omega
          have HQ : Hid (sharesL s cpu = ys) := by
            have h1 := HY.out
            rw [List.take_of_length_le (by have := Hg.out; omega)] at h1
            show _ = _
            rw [HE.out, h1, HP.out]
          go_wp2
          go_ret
          exact ⟨_, rfl, by rw [HQ.out]; exact O2.out.base HW.out, kW.trans hK2⟩
end Go.Proofs.YtfbjnhifjingeaaGreatDoor
