/-
  The judges as plain functions; of a right system two of them always say yes.
  The judges of the model: each is a plain function of the system.
  The walks of the exact laws of the judges, over contracts of the program's judges.
-/
import Derived.Test.YthobpahnmmdbiaaGreatDoorGSys4
import Derived.Test.YthobpahnmmdbiaaGreatDoorGPure2
import Derived.Test.YthobpahnmmdbiaaGreatDoorGTask3
import Derived.Test.YthobpahnmmdbiaaGreatDoorGSys5
import Derived.Test.YthobpahnmmdbiaaGreatDoorGPick2
import Derived.Deep.RegionHeld3
import Derived.Test.YthobpahnmmdbiaaGreatDoorGSys3
import Derived.Test.YthobpahnmmdbiaaGreatDoorErrAs
namespace Go.Proofs.YthobpahnmmdbiaaGreatDoor
open Go.RowKit

def turnOkB (c i : Nat) (t : Tn) : Bool := t.cpu == ((i % c : Nat) : Int) && ((t.ctx == 0) == (t.exe == 0))
def judgeTurnsB (s : Sy) : Bool := sysB s && (s.trace.length % s.cpus.toNat == 0 && (List.range s.trace.length).all fun i => turnOkB s.cpus.toNat i (s.trace.getD i ⟨0, 0, 0⟩))
def judgeDueB (s : Sy) : Bool := sysB s && s.missed == 0
def fairOkB (s : Sy) (t : Tsk) : Bool := !(t.cls == 3) || (t.idle || inB (t.v - s.floors.getD t.cpu.toNat 0) 0 48)
def judgeFairB (s : Sy) : Bool := sysB s && s.tasks.all (fairOkB s)
def bestOkB (s : Sy) (t : Tsk) : Bool := !(canB s.tasks s.locks t.no && (decide (pickI s.tasks s.locks t.cpu < 0) || befB t (s.tasks.getD (pickI s.tasks s.locks t.cpu).toNat Tsk.zero)))
def judgeBestB (s : Sy) : Bool := sysB s && s.tasks.all (bestOkB s)
/-- Who takes the turn of processor j took none of those ahead of it. -/
def aloneAtB (s : Sy) (j : Nat) : Bool := !(decide (0 < pickX s.tasks s.locks j) && (List.range j).any fun i => pickX s.tasks s.locks i == pickX s.tasks s.locks j)
def judgeAloneB (s : Sy) : Bool := sysB s && (List.range s.cpus.toNat).all (aloneAtB s)
def judgeAllB (s : Sy) : Bool := judgeTurnsB s && (judgeDueB s && (judgeFairB s && (judgeBestB s && judgeAloneB s)))
theorem tasks_no_inj {ts : List Tsk} (h : tasksB ts = true) {i j : Nat} {a b : Tsk} (ha : ts[i]? = some a) (hb : ts[j]? = some b) (e : a.no = b.no) : i = j := by
  have hasc : ascB ts = true := by
    simp only [tasksB, Bool.and_eq_true] at h
    exact h.1.2
  rcases Nat.lt_trichotomy i j with h1 | h1 | h1
  · have := ascB_lt hasc j i a b h1 ha hb; omega
  · exact h1
  · have := ascB_lt hasc i j b a h1 hb ha; omega
theorem best_yes (s : Sy) : s.tasks.all (bestOkB s) = true := by
  rw [List.all_eq_true]
  intro t ht
  obtain ⟨i, hi⟩ := List.mem_iff_getElem?.1 ht
  unfold bestOkB
  cases hc : canB s.tasks s.locks t.no
  · rfl
  have hcand : candP s.tasks s.locks t.cpu t = true := by simp [candP, hc]
  rcases topN_spec s.tasks (candP s.tasks s.locks t.cpu) s.tasks.length (Nat.le_refl _) with ⟨_, h⟩ | ⟨j, u, e, _, hu, _, h⟩
  · rw [h i t (lt_of_some hi) hi] at hcand
    cases hcand
  · have hb := h i t (lt_of_some hi) hi hcand
    have e' : pickI s.tasks s.locks t.cpu = (j : Int) := e
    rw [e', Int.toNat_natCast, getD_of hu, hb]
    have : decide ((j : Int) < 0) = false := by simp
    rw [this]
    rfl
/-- Whoever waits for whom is of its processor. -/
theorem chain_cpu {ts : List Tsk} {ls : List Lk} (hl : ls.all (lockOnB ts) = true) (h0 : thereB ts 0 = false) : ∀ (f : Nat) (no : Int), (∀ x ∈ (chainN ls f no).1, thereB ts x = true) → ∀ x ∈ (chainN ls f no).1, (tAt ts x).cpu = (tAt ts no).cpu
  | 0, no, _, x, hx => by
    simp [chainN] at hx
    rw [hx]
  | f + 1, no, h, x, hx => by
    cases hw : waitIx ls no with
    | none =>
      simp [chainN, hw] at hx
      rw [hx]
    | some i =>
      obtain ⟨l, hl1, hl2, _⟩ := waitIx_some hw
      have ho : ownerAt ls i = l.owner := ownerAt_of hl1
      simp only [chainN, hw, List.mem_cons] at h hx
      rw [ho] at h hx
      have hlo := List.all_eq_true.1 hl l (List.mem_of_getElem? hl1)
      have hin : l.owner ∈ (chainN ls f l.owner).1 := by
        cases f with
        | zero => simp [chainN]
        | succ f =>
          simp only [chainN]
          split <;> simp
      have hto := h l.owner (.inr hin)
      have hz : (l.owner == 0) = false := by
        cases h2 : (l.owner == 0)
        · rfl
        · rw [beq_iff_eq] at h2
          rw [h2, h0] at hto
          cases hto
      unfold lockOnB at hlo
      rw [hz, Bool.false_or, Bool.and_eq_true, List.all_eq_true] at hlo
      have hno : no ∈ l.waits := by
        unfold hasB at hl2
        simpa using hl2
      have hc := hlo.2 no hno
      unfold onCpu at hc
      simp only [Bool.and_eq_true, beq_iff_eq] at hc
      rcases hx with rfl | hx
      · rfl
      · rw [chain_cpu hl h0 f l.owner (fun y hy => h y (.inr hy)) x hx, hc.2]
/-- Who takes a turn is of the processor whose turn it is. -/
theorem pickX_cpu {s : Sy} (R : SysR s) {c : Int} (h : 0 < pickX s.tasks s.locks c) : (tAt s.tasks (pickX s.tasks s.locks c)).cpu = c := by
  have h0 : thereB s.tasks 0 = false := by
    cases h : thereB s.tasks 0
    · rfl
    · obtain ⟨k, t, -, ht, e⟩ := thereB_iff.1 h
      have := tasksB_task R.tasks ht
      unfold taskB at this
      simp only [Bool.and_eq_true, inB_iff] at this
      have := this.1.1.1.1
      omega
  have hlk := R.locks
  unfold sysLocksB at hlk
  simp only [Bool.and_eq_true] at hlk
  unfold pickX at h ⊢
  split at h
  case isFalse => omega
  case isTrue hp =>
    rw [if_pos hp]
    simp only [Bool.and_eq_true, Bool.not_eq_true', decide_eq_false_iff_not] at hp
    rcases topN_spec s.tasks (candP s.tasks s.locks c) s.tasks.length (Nat.le_refl _) with ⟨e, _⟩ | ⟨j, u, e, _, hu, hcu, _⟩
    · exact absurd (show pickI s.tasks s.locks c < 0 from by unfold pickI; omega) hp.2
    · have e' : pickI s.tasks s.locks c = (j : Int) := e
      have en : noAt s.tasks (pickI s.tasks s.locks c) = u.no := by
        unfold noAt
        rw [e', if_neg (by omega), Int.toNat_natCast, getD_of hu]
      rw [en] at h ⊢
      unfold candP at hcu
      simp only [Bool.and_eq_true, beq_iff_eq] at hcu
      have hex : (execI s.tasks s.locks u.no != 0) = true := by simp; omega
      obtain ⟨h1, h2, h3, -⟩ := exec_there hex
      have hm : lastI (chainC s.locks u.no) ∈ chainC s.locks u.no := List.mem_of_getElem? (lastI_at (chainC_pos s.locks u.no))
      rw [h2, chain_cpu hlk.2.2 h0 _ u.no h1 _ hm, ← hcu.1]
      obtain ⟨k, t, ek, ht, en2⟩ := thereB_iff.1 h3
      rw [tAt_of ek ht]
      have hjk : k = j := tasks_no_inj R.tasks ht hu (en2)
      subst hjk
      rw [ht] at hu
      cases hu
      rfl
theorem alone_yes {s : Sy} (R : SysR s) : (List.range s.cpus.toNat).all (aloneAtB s) = true := by
  rw [List.all_eq_true]
  intro j _
  unfold aloneAtB
  cases h : decide (0 < pickX s.tasks s.locks j)
  · rfl
  · rw [Bool.true_and, Bool.not_eq_true', List.any_eq_false]
    intro i hi e
    rw [beq_iff_eq] at e
    have hj : 0 < pickX s.tasks s.locks j := of_decide_eq_true h
    have h1 := pickX_cpu R hj
    have h2 := pickX_cpu R (c := i) (by rw [e]; exact hj)
    rw [e, h1] at h2
    rw [List.mem_range] at hi
    omega
end Go.Proofs.YthobpahnmmdbiaaGreatDoor
namespace Go.Proofs.YthobpahnmmdbiaaGreatDoor
open Go.RowKit
attribute [local go_sem] Keeps.refl Keeps.alloc Keeps.drew Keeps.drewN

theorem all_takeJ {α : Type} (p : α → Bool) {xs : List α} {k : Nat} {x : α} (hx : xs[k]? = some x) (h : (xs.take k).all p = true) (hp : p x = true) : (xs.take (k + 1)).all p = true := by
  rw [take_snoc hx, List.all_append, h]
  simp [hp]
theorem all_notJ {α : Type} (p : α → Bool) {xs : List α} {k : Nat} {x : α} (hx : xs[k]? = some x) (hp : p x = false) : xs.all p = false :=
  List.all_eq_false.2 ⟨x, List.mem_of_getElem? hx, by simp [hp]⟩
theorem mod_cpus {s : Sy} (h : 1 ≤ s.cpus) (k : Nat) : (k : Int) % s.cpus = ((k % s.cpus.toNat : Nat) : Int) := by
  have e : s.cpus = (s.cpus.toNat : Int) := by omega
  conv => lhs; rw [e]
  rfl
theorem rangeB_step {p : Nat → Bool} {k : Nat} (h : (List.range k).all p = true) (hp : p k = true) : (List.range (k + 1)).all p = true := by
  rw [List.range_succ, List.all_append, h]
  simp [hp]
theorem rangeB_not {p : Nat → Bool} {n k : Nat} (hk : k < n) (hp : p k = false) : (List.range n).all p = false :=
  List.all_eq_false.2 ⟨k, List.mem_range.2 hk, by simp [hp]⟩
theorem SysR.floorIn {s : Sy} (h : SysR s) {c : Nat} {f : Int} (hf : s.floors[c]? = some f) : 0 ≤ f ∧ f ≤ 100000000 := by
  have h1 := h.cpu c (by have := lt_of_some hf; have := h.floors; omega)
  unfold cpuB at h1
  simp only [Bool.and_eq_true] at h1
  have h2 := inB_iff.1 h1.1
  rwa [getD_at hf] at h2
theorem taskB_v {t : Tsk} (h : taskB t = true) (c : (t.cls == 3) = true) : 0 ≤ t.v ∧ t.v ≤ 100000000 := by
  unfold taskB at h
  simp only [Bool.and_eq_true] at h
  have h1 := h.2
  unfold ofClassB at h1
  rw [beq_iff_eq] at c
  rw [c, if_neg (by decide), if_neg (by decide), Bool.and_eq_true] at h1
  exact inB_iff.1 h1.2

set_option maxRecDepth 100000 in
set_option maxHeartbeats 4000000 in
theorem specJudgeTurns_any {w : World} {v : Sv} {s : Sy} (h : SysOn w v s) :
    Calls Tryz.prog 17 #[.agg (syc s v)] w fun e w' => e = .returned (.bool (judgeTurnsB s)) ∧ Keeps w w' := by
  obtain ⟨vt, vl, vg, vf, ⟨ra, rn, rcap⟩⟩ := v
  have hm : rn ≤ 2000000 := by have h1 := h.size; have h2 : s.trace.length = rn := h.lay.rl; unfold sizeS at h1; omega
  have Hn : Hid (s.trace.length = rn) := h.lay.rl
  have kW : Keeps w (w.alloc (.cells (syc s ⟨vt, vl, vg, vf, ⟨ra, rn, rcap⟩⟩) 30)) := (Keeps.refl w).alloc _
  have hb : ∀ w', Keeps (w.alloc (.cells (syc s ⟨vt, vl, vg, vf, ⟨ra, rn, rcap⟩⟩) 30)) w' → ∀ j, w'.cell? ⟨w.heap.size, j, none⟩ = (syc s ⟨vt, vl, vg, vf, ⟨ra, rn, rcap⟩⟩)[j]? := fun w' k => ((Blk.new w (syc s ⟨vt, vl, vg, vf, ⟨ra, rn, rcap⟩⟩) 30).keeps k).cells
  have hS : Hid (SysOn (w.alloc (.cells (syc s ⟨vt, vl, vg, vf, ⟨ra, rn, rcap⟩⟩) 30)) ⟨vt, vl, vg, vf, ⟨ra, rn, rcap⟩⟩ s) := h.keeps kW
  have hs1 : Hid (Rs (w.alloc (.cells (syc s ⟨vt, vl, vg, vf, ⟨ra, rn, rcap⟩⟩) 30)) ra s.trace) := hS.out.lay.r
  clear h
  go_enter Tryz.func17, Tryz.ntmps17
  go_wp2_with fail
  generalize w.alloc (.cells (syc s ⟨vt, vl, vg, vf, ⟨ra, rn, rcap⟩⟩) 30) = W at *
  refine (specSysOk_any hS.out).mono ?_
  rintro e w1 ⟨rfl, k1⟩
  cases c1 : sysB s
  · have Hr : Hid (judgeTurnsB s = false) := by show _ = _; unfold judgeTurnsB; rw [c1]; rfl
    go_wp2
    go_ret
    exact ⟨by rw [Hr.out]; rfl, kW.trans k1⟩
  have hcp : 1 ≤ s.cpus := (sysB_iff.1 c1).cpus.1
  have hc0 : s.cpus ≠ 0 := by omega
  have HM : Hid (∀ k : Nat, (k : Int) % s.cpus = ((k % s.cpus.toNat : Nat) : Int)) := mod_cpus hcp
  have HE : Hid (judgeTurnsB s = (s.trace.length % s.cpus.toNat == 0 && (List.range rn).all fun i => turnOkB s.cpus.toNat i (s.trace.getD i ⟨0, 0, 0⟩))) := by show _ = _; unfold judgeTurnsB; rw [c1, Hn.out]; rfl
  cases c2 : ((rn : Int) % s.cpus != 0)
  rotate_left
  · have Hr : Hid (judgeTurnsB s = false) := by
      have e : (s.trace.length % s.cpus.toNat == 0) = false := by
        rw [HM.out] at c2
        rw [Hn.out]
        simp only [bne_iff_ne, ne_eq, beq_eq_false_iff_ne] at c2 ⊢
        omega
      show _ = _
      rw [HE.out, e]; rfl
    go_wp2
    go_ret
    exact ⟨by rw [Hr.out]; rfl, kW.trans k1⟩
  have HE2 : Hid (judgeTurnsB s = (List.range rn).all fun i => turnOkB s.cpus.toNat i (s.trace.getD i ⟨0, 0, 0⟩)) := by
    have e : (s.trace.length % s.cpus.toNat == 0) = true := by
      rw [HM.out] at c2
      rw [Hn.out]
      simp only [bne_eq_false_iff_eq, beq_iff_eq] at c2 ⊢
      omega
    show _ = _
    rw [HE.out, e]; rfl
  clear HE c1 hS
  go_wp2_with fail
  clear c2
  go_loopw [3] (fun i wr => ∃ k : Nat, k ≤ rn ∧ i = .int .i64 k ∧ Hid (((List.range k).all fun i => turnOkB s.cpus.toNat i (s.trace.getD i ⟨0, 0, 0⟩)) = true) ∧ Keeps W wr) (fun i _ => rn - (intOf i).toNat)
  case atStart => exact ⟨0, Nat.zero_le _, rfl, by show _ = _; simp, k1⟩
  case round =>
    obtain ⟨k, hk, rfl, HA, hK⟩ := hrel
    clear k1
    by_cases hlt : k < rn
    · obtain ⟨t, ht⟩ := some_in (xs := s.trace) (k := k) (by rw [Hn.out]; exact hlt)
      obtain ⟨b, off, rfl, r0, r1⟩ := hs1.out.at ht (by omega)
      have hq0 : (k : Int).tmod s.cpus = (k : Int) % s.cpus := Int.tmod_eq_emod_of_nonneg (by omega)
      have hlt' : (k : Int) < (rn : Int) := by omega
      have Hst : Hid (turnOkB s.cpus.toNat k (s.trace.getD k ⟨0, 0, 0⟩) = (t.cpu == (k : Int) % s.cpus && ((t.ctx == 0) == (t.exe == 0)))) := by show _ = _; rw [getD_at ht, HM.out]; rfl
      clear ht hs1
      go_upto_region 7 with fail
      have kX : Keeps W (wr.alloc (.cells (tnc t) 44)) := hK.alloc _
      have hX : ∀ w', Keeps (wr.alloc (.cells (tnc t) 44)) w' → ∀ j, w'.cell? ⟨wr.heap.size, j, none⟩ = (tnc t)[j]? := fun w' h => ((Blk.new wr (tnc t) 44).keeps h).cells
      have hb2 : ∀ w', Keeps (wr.alloc (.cells (tnc t) 44)) w' → ∀ j, w'.cell? ⟨w.heap.size, j, none⟩ = (syc s ⟨vt, vl, vg, vf, ⟨some ⟨b, off, none⟩, rn, rcap⟩⟩)[j]? := fun w' h => hb w' (kX.trans h)
      change Code.wp _ _ _ _ (wr.alloc (.cells (tnc t) 44))
      clear r0 r1 hb
      generalize wr.alloc (.cells (tnc t) 44) = X at *
      cases q1 : (t.cpu != (k : Int) % s.cpus)
      rotate_left
      · have Hr : Hid (judgeTurnsB s = false) := by
          have e : turnOkB s.cpus.toNat k (s.trace.getD k ⟨0, 0, 0⟩) = false := by
            rw [Hst.out]
            have : (t.cpu == (k : Int) % s.cpus) = false := by simpa [bne] using q1
            rw [this]; rfl
          show _ = _
          rw [HE2.out, rangeB_not hlt e]
        refine wp_region_held_drew (S := (fun w' => Keeps X w')) (by kernel_rfl) ?_ (fun hHeld => ?_)
        · exact (Keeps.refl X).drew
        refine Plan.go [0, 1, 2, 3, 4, 5, 6, 7] ?_
        iterate 8 (refine takeL (by simp only [opsAt]; rfl) (by kernel_rfl) (by exact fun _ _ _ h => h) (by rfl) (by assumption) (fun w _ => by go_simp; try (with_reducible rfl)) ?_; try simp only [putAtH])
        refine Plan.nil ?_
        refine Plan.go [8, 9, 10, 11, 12, 13, 14] ?_
        iterate 7 (refine skipL (by simp only [opsAt]; rfl) (by kernel_rfl) (by exact fun _ _ _ h => h) (by rfl) (by assumption) ?_; try simp only [putAtH])
        refine Plan.nil ?_
        refine takeH 15 (v := ?_) (by simp only [opsAt]; rfl) (by kernel_rfl) (by exact fun _ _ _ h => h) (by rfl) (by assumption) ?_ ?_
        rotate_left
        · (intro w _; go_simp; try (with_reducible rfl))
        try simp only [putAtH]
        refine wpAnyH_done (by kernel_rfl) ?_ _
        go_wp2
        go_ret
        exact ⟨by rw [Hr.out]; rfl, kW.trans kX.drew⟩
      have e1 : (t.cpu == (k : Int) % s.cpus) = true := by simpa [bne] using q1
      cases q2 : (!((t.ctx == 0) == (t.exe == 0)))
      · have HA2 : Hid (((List.range (k + 1)).all fun i => turnOkB s.cpus.toNat i (s.trace.getD i ⟨0, 0, 0⟩)) = true) := rangeB_step HA.out (by
          rw [Hst.out, e1]
          simpa using q2)
        clear Hst HE2 e1
        refine wp_region_held_drew (S := (fun w' => Keeps X w')) (by kernel_rfl) ?_ (fun hHeld => ?_)
        · exact (Keeps.refl X).drew
        refine Plan.go [0, 1, 2, 3, 4, 5, 6, 7, 8, 9, 10, 11, 12, 13, 14, 15] ?_
        iterate 16 (refine takeL (by simp only [opsAt]; rfl) (by kernel_rfl) (by exact fun _ _ _ h => h) (by rfl) (by assumption) (fun w _ => by go_simp; try (with_reducible rfl)) ?_; try simp only [putAtH])
        refine Plan.nil ?_
        refine wpAnyH_done (by kernel_rfl) ?_ _
        go_wp2
        exact ⟨⟨k + 1, by omega, by go_num, HA2, kX.drew⟩, by simp only [intOf]; omega⟩
      · have Hr : Hid (judgeTurnsB s = false) := by
          have e : turnOkB s.cpus.toNat k (s.trace.getD k ⟨0, 0, 0⟩) = false := by
            rw [Hst.out, e1]
            simpa using q2
          show _ = _
          rw [HE2.out, rangeB_not hlt e]
        clear Hst e1
        refine wp_region_held_drew (S := (fun w' => Keeps X w')) (by kernel_rfl) ?_ (fun hHeld => ?_)
        · exact (Keeps.refl X).drew
        refine Plan.go [0, 1, 2, 3, 4, 5, 6, 7, 8, 9, 10, 11, 12, 13, 14, 15] ?_
        iterate 16 (refine takeL (by simp only [opsAt]; rfl) (by kernel_rfl) (by exact fun _ _ _ h => h) (by rfl) (by assumption) (fun w _ => by go_simp; try (with_reducible rfl)) ?_; try simp only [putAtH])
        refine Plan.nil ?_
        refine wpAnyH_done (by kernel_rfl) ?_ _
        go_wp2
        go_ret
        exact ⟨by rw [Hr.out]; rfl, kW.trans kX.drew⟩
    · have hlt' : decide ((k : Int) < (rn : Int)) = false := by simp; omega
      have Hr : Hid (judgeTurnsB s = true) := by
        show _ = _
        rw [HE2.out, show rn = k from by omega, HA.out]
      go_wp2
      go_ret
      exact ⟨by rw [Hr.out]; rfl, kW.trans hK⟩

set_option maxRecDepth 100000 in
set_option maxHeartbeats 2000000 in
theorem specJudgeDue_any {w : World} {v : Sv} {s : Sy} (h : SysOn w v s) :
    Calls Tryz.prog 18 #[.agg (syc s v)] w fun e w' => e = .returned (.bool (judgeDueB s)) ∧ Keeps w w' := by
  have kW : Keeps w (w.alloc (.cells (syc s v) 30)) := (Keeps.refl w).alloc _
  have hb : ∀ w', Keeps (w.alloc (.cells (syc s v) 30)) w' → ∀ j, w'.cell? ⟨w.heap.size, j, none⟩ = (syc s v)[j]? := fun w' k => ((Blk.new w (syc s v) 30).keeps k).cells
  have hS : Hid (SysOn (w.alloc (.cells (syc s v) 30)) v s) := h.keeps kW
  clear h
  go_enter Tryz.func18, Tryz.ntmps18
  go_wp2_with fail
  generalize w.alloc (.cells (syc s v) 30) = W at *
  refine (specSysOk_any hS.out).mono ?_
  rintro e w1 ⟨rfl, k1⟩
  cases c1 : sysB s
  · have Hr : Hid (judgeDueB s = false) := by show _ = _; unfold judgeDueB; rw [c1]; rfl
    go_wp2
    go_ret
    exact ⟨by rw [Hr.out]; rfl, kW.trans k1⟩
  have Hr : Hid (judgeDueB s = (s.missed == 0)) := by show _ = _; unfold judgeDueB; rw [c1]; rfl
  clear c1 hS
  go_wp2
  go_ret
  exact ⟨by rw [Hr.out]; rfl, kW.trans k1⟩

set_option maxRecDepth 100000 in
set_option maxHeartbeats 4000000 in
theorem specJudgeFair_any {w : World} {v : Sv} {s : Sy} (h : SysOn w v s) :
    Calls Tryz.prog 19 #[.agg (syc s v)] w fun e w' => e = .returned (.bool (judgeFairB s)) ∧ Keeps w w' := by
  obtain ⟨⟨ta, tn, tcap⟩, vl, vg, ⟨fa, fn, fcap⟩, vr⟩ := v
  have hm : tn ≤ 2000000 := by have h1 := h.size; have h2 : s.tasks.length = tn := h.lay.tl; unfold sizeS at h1; omega
  have Hn : Hid (s.tasks.length = tn) := h.lay.tl
  have Hfn : Hid (s.floors.length = fn) := h.lay.fl
  have kW : Keeps w (w.alloc (.cells (syc s ⟨⟨ta, tn, tcap⟩, vl, vg, ⟨fa, fn, fcap⟩, vr⟩) 30)) := (Keeps.refl w).alloc _
  have hb : ∀ w', Keeps (w.alloc (.cells (syc s ⟨⟨ta, tn, tcap⟩, vl, vg, ⟨fa, fn, fcap⟩, vr⟩) 30)) w' → ∀ j, w'.cell? ⟨w.heap.size, j, none⟩ = (syc s ⟨⟨ta, tn, tcap⟩, vl, vg, ⟨fa, fn, fcap⟩, vr⟩)[j]? := fun w' k => ((Blk.new w (syc s ⟨⟨ta, tn, tcap⟩, vl, vg, ⟨fa, fn, fcap⟩, vr⟩) 30).keeps k).cells
  have hS : Hid (SysOn (w.alloc (.cells (syc s ⟨⟨ta, tn, tcap⟩, vl, vg, ⟨fa, fn, fcap⟩, vr⟩) 30)) ⟨⟨ta, tn, tcap⟩, vl, vg, ⟨fa, fn, fcap⟩, vr⟩ s) := h.keeps kW
  have hs1 : Hid (Ts (w.alloc (.cells (syc s ⟨⟨ta, tn, tcap⟩, vl, vg, ⟨fa, fn, fcap⟩, vr⟩) 30)) ta s.tasks) := hS.out.lay.t
  have hs2 : Hid (Ns (w.alloc (.cells (syc s ⟨⟨ta, tn, tcap⟩, vl, vg, ⟨fa, fn, fcap⟩, vr⟩) 30)) fa s.floors) := hS.out.lay.f
  clear h
  go_enter Tryz.func19, Tryz.ntmps19
  go_wp2_with fail
  generalize w.alloc (.cells (syc s ⟨⟨ta, tn, tcap⟩, vl, vg, ⟨fa, fn, fcap⟩, vr⟩) 30) = W at *
  refine (specSysOk_any hS.out).mono ?_
  rintro e w1 ⟨rfl, k1⟩
  cases c1 : sysB s
  · have Hr : Hid (judgeFairB s = false) := by show _ = _; unfold judgeFairB; rw [c1]; rfl
    go_wp2
    go_ret
    exact ⟨by rw [Hr.out]; rfl, kW.trans k1⟩
  have HR : Hid (SysR s) := sysB_iff.1 c1
  have HE : Hid (judgeFairB s = s.tasks.all (fairOkB s)) := by show _ = _; unfold judgeFairB; rw [c1]; rfl
  clear c1 hS
  go_wp2_with fail
  go_loopw [3] (fun i wr => ∃ k : Nat, k ≤ tn ∧ i = .int .i64 k ∧ Hid ((s.tasks.take k).all (fairOkB s) = true) ∧ Keeps W wr) (fun i _ => tn - (intOf i).toNat)
  case atStart => exact ⟨0, Nat.zero_le _, rfl, by show _ = _; simp, k1⟩
  case round =>
    obtain ⟨k, hk, rfl, HA, hK⟩ := hrel
    clear k1
    by_cases hlt : k < tn
    · obtain ⟨t, ht⟩ := some_in (xs := s.tasks) (k := k) (by rw [Hn.out]; exact hlt)
      obtain ⟨b, off, rfl, r0, r1⟩ := hs1.out.at ht (by omega)
      have hlt' : (k : Int) < (tn : Int) := by omega
      have hcp := HR.out.onCpus t (List.mem_of_getElem? ht)
      obtain ⟨c, hc, hcl⟩ : ∃ c : Nat, t.cpu = (c : Int) ∧ c < fn := ⟨t.cpu.toNat, by omega, by have := Hfn.out; omega⟩
      have hcl' : (c : Int) < (fn : Int) := by omega
      obtain ⟨f, hf⟩ := some_in (xs := s.floors) (k := c) (by rw [Hfn.out]; exact hcl)
      obtain ⟨fb, fo, rfl, rf0⟩ := hs2.out.at hf
      have Hfr : Hid (0 ≤ f ∧ f ≤ 100000000) := HR.out.floorIn hf
      have Hvr : Hid ((t.cls == 3) = true → 0 ≤ t.v ∧ t.v ≤ 100000000) := taskB_v (tasksB_task HR.out.tasks ht)
      have Hok : Hid (fairOkB s t = (!(t.cls == 3) || (t.idle || inB (t.v - f) 0 48))) := by show _ = _; unfold fairOkB; rw [hc, Int.toNat_natCast, getD_at hf]
      have Ht : Hid (s.tasks[k]? = some t) := ht
      have hrf : ∀ w', Keeps W w' → w'.cell? ⟨fb, fo + c, none⟩ = some (.int .i64 f) := rf0
      clear ht hf rf0 hs1 hs2
      obtain ⟨u, rfl⟩ : ∃ u : Tsk, t = { u with cpu := (c : Int) } := ⟨t, by rw [← hc]⟩
      clear hc hcp
      go_upto_region 7 with fail
      have kX : Keeps W (wr.alloc (.cells (tc { u with cpu := (c : Int) }) 46)) := hK.alloc _
      have hX : ∀ w', Keeps (wr.alloc (.cells (tc { u with cpu := (c : Int) }) 46)) w' → ∀ j, w'.cell? ⟨wr.heap.size, j, none⟩ = (tc { u with cpu := (c : Int) })[j]? := fun w' h => ((Blk.new wr (tc { u with cpu := (c : Int) }) 46).keeps h).cells
      have hb2 : ∀ w', Keeps (wr.alloc (.cells (tc { u with cpu := (c : Int) }) 46)) w' → ∀ j, w'.cell? ⟨w.heap.size, j, none⟩ = (syc s ⟨⟨some ⟨b, off, none⟩, tn, tcap⟩, vl, vg, ⟨some ⟨fb, fo, none⟩, fn, fcap⟩, vr⟩)[j]? := fun w' h => hb w' (kX.trans h)
      have hf2 : ∀ w', Keeps (wr.alloc (.cells (tc { u with cpu := (c : Int) }) 46)) w' → w'.cell? ⟨fb, fo + c, none⟩ = some (.int .i64 f) := fun w' h => hrf w' (kX.trans h)
      change Code.wp _ _ _ _ (wr.alloc (.cells (tc { u with cpu := (c : Int) }) 46))
      clear r0 r1 hb hrf
      generalize wr.alloc (.cells (tc { u with cpu := (c : Int) }) 46) = X at *
      cases q1 : (u.cls == 3)
      · have HA2 : Hid ((s.tasks.take (k + 1)).all (fairOkB s) = true) := all_takeJ _ Ht.out HA.out (by rw [Hok.out]; simp [q1])
        clear Hok HE Ht
        refine wp_region_held_drew (S := (fun w' => Keeps X w')) (by kernel_rfl) ?_ (fun hHeld => ?_)
        · exact (Keeps.refl X).drew
        refine Plan.go [0, 1, 2, 3] ?_
        iterate 4 (refine takeL (by simp only [opsAt]; rfl) (by kernel_rfl) (by exact fun _ _ _ h => h) (by rfl) (by assumption) (fun w _ => by go_simp; try (with_reducible rfl)) ?_; try simp only [putAtH])
        refine Plan.nil ?_
        refine Plan.go [4, 5, 6] ?_
        iterate 3 (refine skipL (by simp only [opsAt]; rfl) (by kernel_rfl) (by exact fun _ _ _ h => h) (by rfl) (by assumption) ?_; try simp only [putAtH])
        refine Plan.nil ?_
        refine Plan.go [7, 8] ?_
        iterate 2 (refine takeL (by simp only [opsAt]; rfl) (by kernel_rfl) (by exact fun _ _ _ h => h) (by rfl) (by assumption) (fun w _ => by go_simp; try (with_reducible rfl)) ?_; try simp only [putAtH])
        refine Plan.nil ?_
        refine Plan.go [9, 10, 11, 12, 13, 14, 15, 16, 17, 18, 19] ?_
        iterate 11 (refine skipL (by simp only [opsAt]; rfl) (by kernel_rfl) (by exact fun _ _ _ h => h) (by rfl) (by assumption) ?_; try simp only [putAtH])
        refine Plan.nil ?_
        refine takeH 20 (v := ?_) (by simp only [opsAt]; rfl) (by kernel_rfl) (by exact fun _ _ _ h => h) (by rfl) (by assumption) ?_ ?_
        rotate_left
        · (intro w _; go_simp; try (with_reducible rfl))
        try simp only [putAtH]
        refine wpAnyH_done (by kernel_rfl) ?_ _
        go_wp2
        exact ⟨⟨k + 1, by omega, by go_num, HA2, kX.drew⟩, by simp only [intOf]; omega⟩
      have e2 : IntKind.i64.wrap (u.v - f) = u.v - f := Go.IntWalk.i64_in _ (by have h1 := Hvr.out q1; have h2 := Hfr.out; simp only at h1; omega)
      cases q2 : u.idle
      rotate_left
      · have HA2 : Hid ((s.tasks.take (k + 1)).all (fairOkB s) = true) := all_takeJ _ Ht.out HA.out (by rw [Hok.out]; simp [q2])
        clear Hok HE Ht
        refine wp_region_held_drew (S := (fun w' => Keeps X w')) (by kernel_rfl) ?_ (fun hHeld => ?_)
        · exact (Keeps.refl X).drew
        refine Plan.go [0, 1, 2, 3, 4, 5, 6, 7, 8] ?_
        iterate 9 (refine takeL (by simp only [opsAt]; rfl) (by kernel_rfl) (by exact fun _ _ _ h => h) (by rfl) (by assumption) (fun w _ => by go_simp; try (with_reducible rfl)) ?_; try simp only [putAtH])
        refine Plan.nil ?_
        refine Plan.go [9, 10, 11, 12, 13, 14, 15, 16, 17, 18, 19] ?_
        iterate 11 (refine skipL (by simp only [opsAt]; rfl) (by kernel_rfl) (by exact fun _ _ _ h => h) (by rfl) (by assumption) ?_; try simp only [putAtH])
        refine Plan.nil ?_
        refine takeH 20 (v := ?_) (by simp only [opsAt]; rfl) (by kernel_rfl) (by exact fun _ _ _ h => h) (by rfl) (by assumption) ?_ ?_
        rotate_left
        · (intro w _; go_simp; try (with_reducible rfl))
        try simp only [putAtH]
        refine wpAnyH_done (by kernel_rfl) ?_ _
        go_wp2
        exact ⟨⟨k + 1, by omega, by go_num, HA2, kX.drew⟩, by simp only [intOf]; omega⟩
      cases q3 : inB (u.v - f) 0 48
      · have Hr : Hid (judgeFairB s = false) := by show _ = _; rw [HE.out, all_notJ _ Ht.out (by rw [Hok.out]; simp [q1, q2, q3])]
        clear Hok Ht
        refine wp_region_held_drew (S := (fun w' => Keeps X w')) (by kernel_rfl) ?_ (fun hHeld => ?_)
        · exact (Keeps.refl X).drew
        refine Plan.go [0, 1, 2, 3, 4, 5, 6, 7, 8, 9, 10, 11, 12, 13, 14, 15, 16, 17] ?_
        iterate 18 (refine takeL (by simp only [opsAt]; rfl) (by kernel_rfl) (by exact fun _ _ _ h => h) (by rfl) (by assumption) (fun w _ => by go_simp; try (with_reducible rfl)) ?_; try simp only [putAtH])
        refine Plan.nil ?_
        refine callH 18 (by kernel_rfl) (by simp only [opsAt]; rfl) (fun K hK => ?_)
        go_simp
        first
          | (go_at_call 35; refine (l1In_any _ _ _ _).mono ?_; rintro e w5 ⟨rfl, hw5⟩; have hw6 := hw5.symm; subst hw6; rw [q3])
        try go_wp2_with fail
        refine hK.out _ _ ?_ (fun hHeld => ?_)
        · assumption
        clear hK K
        try simp only [putAtH]
        refine Plan.go [19, 20] ?_
        iterate 2 (refine takeL (by simp only [opsAt]; rfl) (by kernel_rfl) (by exact fun _ _ _ h => h) (by rfl) (by assumption) (fun w _ => by go_simp; try (with_reducible rfl)) ?_; try simp only [putAtH])
        refine Plan.nil ?_
        refine wpAnyH_done (by kernel_rfl) ?_ _
        go_wp2
        go_ret
        exact ⟨by rw [Hr.out]; rfl, kW.trans kX.drew⟩
      · have HA2 : Hid ((s.tasks.take (k + 1)).all (fairOkB s) = true) := all_takeJ _ Ht.out HA.out (by rw [Hok.out]; simp [q3])
        clear Hok HE Ht
        refine wp_region_held_drew (S := (fun w' => Keeps X w')) (by kernel_rfl) ?_ (fun hHeld => ?_)
        · exact (Keeps.refl X).drew
        refine Plan.go [0, 1, 2, 3, 4, 5, 6, 7, 8, 9, 10, 11, 12, 13, 14, 15, 16, 17] ?_
        iterate 18 (refine takeL (by simp only [opsAt]; rfl) (by kernel_rfl) (by exact fun _ _ _ h => h) (by rfl) (by assumption) (fun w _ => by go_simp; try (with_reducible rfl)) ?_; try simp only [putAtH])
        refine Plan.nil ?_
        refine callH 18 (by kernel_rfl) (by simp only [opsAt]; rfl) (fun K hK => ?_)
        go_simp
        first
          | (go_at_call 35; refine (l1In_any _ _ _ _).mono ?_; rintro e w5 ⟨rfl, hw5⟩; have hw6 := hw5.symm; subst hw6; rw [q3])
        try go_wp2_with fail
        refine hK.out _ _ ?_ (fun hHeld => ?_)
        · assumption
        clear hK K
        try simp only [putAtH]
        refine Plan.go [19, 20] ?_
        iterate 2 (refine takeL (by simp only [opsAt]; rfl) (by kernel_rfl) (by exact fun _ _ _ h => h) (by rfl) (by assumption) (fun w _ => by go_simp; try (with_reducible rfl)) ?_; try simp only [putAtH])
        refine Plan.nil ?_
        refine wpAnyH_done (by kernel_rfl) ?_ _
        go_wp2
        exact ⟨⟨k + 1, by omega, by go_num, HA2, kX.drew⟩, by simp only [intOf]; omega⟩
    · have hlt' : decide ((k : Int) < (tn : Int)) = false := by simp; omega
      have Hr : Hid (judgeFairB s = true) := by
        have h1 := HA.out
        rw [List.take_of_length_le (by have := Hn.out; omega)] at h1
        show _ = _
        rw [HE.out, h1]
      go_wp2
      go_ret
      exact ⟨by rw [Hr.out]; rfl, kW.trans hK⟩

set_option maxRecDepth 100000 in
set_option maxHeartbeats 4000000 in
theorem specJudgeBest_any {w : World} {v : Sv} {s : Sy} (h : SysOn w v s) :
    Calls Tryz.prog 20 #[.agg (syc s v)] w fun e w' => e = .returned (.bool (judgeBestB s)) ∧ Keeps w w' := by
  obtain ⟨⟨ta, tn, tcap⟩, vl, vg, vf, vr⟩ := v
  have hm : tn ≤ 2000000 := by have h1 := h.size; have h2 : s.tasks.length = tn := h.lay.tl; unfold sizeS at h1; omega
  have Hn : Hid (s.tasks.length = tn) := h.lay.tl
  have kW : Keeps w (w.alloc (.cells (syc s ⟨⟨ta, tn, tcap⟩, vl, vg, vf, vr⟩) 30)) := (Keeps.refl w).alloc _
  have hb : ∀ w', Keeps (w.alloc (.cells (syc s ⟨⟨ta, tn, tcap⟩, vl, vg, vf, vr⟩) 30)) w' → ∀ j, w'.cell? ⟨w.heap.size, j, none⟩ = (syc s ⟨⟨ta, tn, tcap⟩, vl, vg, vf, vr⟩)[j]? := fun w' k => ((Blk.new w (syc s ⟨⟨ta, tn, tcap⟩, vl, vg, vf, vr⟩) 30).keeps k).cells
  have hS : Hid (SysOn (w.alloc (.cells (syc s ⟨⟨ta, tn, tcap⟩, vl, vg, vf, vr⟩) 30)) ⟨⟨ta, tn, tcap⟩, vl, vg, vf, vr⟩ s) := h.keeps kW
  have hs1 : Hid (Ts (w.alloc (.cells (syc s ⟨⟨ta, tn, tcap⟩, vl, vg, vf, vr⟩) 30)) ta s.tasks) := hS.out.lay.t
  have hTw : Hid (Two (w.alloc (.cells (syc s ⟨⟨ta, tn, tcap⟩, vl, vg, vf, vr⟩) 30)) ta tn tcap s.tasks vl.a vl.n vl.cap s.locks) := ⟨hS.out.onT, hS.out.onL⟩
  clear h
  go_enter Tryz.func20, Tryz.ntmps20
  go_wp2_with fail
  generalize w.alloc (.cells (syc s ⟨⟨ta, tn, tcap⟩, vl, vg, vf, vr⟩) 30) = W at *
  refine (specSysOk_any hS.out).mono ?_
  rintro e w1 ⟨rfl, k1⟩
  cases c1 : sysB s
  · have Hr : Hid (judgeBestB s = false) := by show _ = _; unfold judgeBestB; rw [c1]; rfl
    go_wp2
    go_ret
    exact ⟨by rw [Hr.out]; rfl, kW.trans k1⟩
  have HE : Hid (judgeBestB s = true) := by show _ = _; unfold judgeBestB; rw [c1, best_yes]; rfl
  clear c1 hS
  go_wp2_with fail
  go_loopw [3] (fun i wr => ∃ k : Nat, k ≤ tn ∧ i = .int .i64 k ∧ Keeps W wr) (fun i _ => tn - (intOf i).toNat)
  case atStart => exact ⟨0, Nat.zero_le _, rfl, k1⟩
  case round =>
    obtain ⟨k, hk, rfl, hK⟩ := hrel
    clear k1
    by_cases hlt : k < tn
    · obtain ⟨t, ht⟩ := some_in (xs := s.tasks) (k := k) (by rw [Hn.out]; exact hlt)
      obtain ⟨b, off, rfl, r0, r1⟩ := hs1.out.at ht (by omega)
      have hlt' : (k : Int) < (tn : Int) := by omega
      have Hok : Hid (bestOkB s t = true) := List.all_eq_true.1 (best_yes s) t (List.mem_of_getElem? ht)
      obtain ⟨A, HA⟩ : ∃ A, Hid (pickI s.tasks s.locks t.cpu = A) := ⟨_, rfl⟩
      have hAr : -1 ≤ A ∧ A < tn := by rw [← HA.out, ← Hn.out]; exact topN_le s.tasks _ _
      clear ht
      go_wp2_with fail
      have kX : Keeps W (wr.alloc (.cells (tc t) 46)) := hK.alloc _
      have hX : ∀ w', Keeps (wr.alloc (.cells (tc t) 46)) w' → ∀ j, w'.cell? ⟨wr.heap.size, j, none⟩ = (tc t)[j]? := fun w' h => ((Blk.new wr (tc t) 46).keeps h).cells
      have hTX : Hid (Two (wr.alloc (.cells (tc t) 46)) (some ⟨b, off, none⟩) tn tcap s.tasks vl.a vl.n vl.cap s.locks) := hTw.out.keeps kX
      have hb2 : ∀ w', Keeps (wr.alloc (.cells (tc t) 46)) w' → ∀ j, w'.cell? ⟨w.heap.size, j, none⟩ = (syc s ⟨⟨some ⟨b, off, none⟩, tn, tcap⟩, vl, vg, vf, vr⟩)[j]? := fun w' h => hb w' (kX.trans h)
      change Calls _ _ _ (wr.alloc (.cells (tc t) 46)) _
      clear r0 r1 hb
      generalize wr.alloc (.cells (tc t) 46) = X at *
      refine (hTX.out.pick t.cpu HA.out (Keeps.refl _)).mono ?_
      rintro e w2 ⟨rfl, k2⟩
      cases q1 : canB s.tasks s.locks t.no
      · go_upto_region 8 with fail
        refine wp_region_held_drew (S := (fun w' => Keeps X w')) (by kernel_rfl) ?_ (fun hHeld => ?_)
        · exact k2.drew
        refine Plan.go [0, 1, 2, 3, 4, 5] ?_
        iterate 6 (refine takeL (by simp only [opsAt]; rfl) (by kernel_rfl) (by exact fun _ _ _ h => h) (by rfl) (by assumption) (fun w _ => by go_simp; try (with_reducible rfl)) ?_; try simp only [putAtH])
        refine Plan.nil ?_
        refine callH 6 (by kernel_rfl) (by simp only [opsAt]; rfl) (fun K hK => ?_)
        go_simp
        first
          | (go_at_call 37; refine (hTX.out.can t.no q1 k2.drew).mono ?_; rintro e w3 ⟨rfl, k3⟩)
        try go_wp2_with fail
        refine hK.out _ _ ?_ (fun hHeld => ?_)
        · exact Keeps.trans (by assumption) (by assumption)
        clear hK K
        try simp only [putAtH]
        refine takeH 7 (v := ?_) (by simp only [opsAt]; rfl) (by kernel_rfl) (by exact fun _ _ _ h => h) (by rfl) (by assumption) ?_ ?_
        rotate_left
        · (intro w _; go_simp; try (with_reducible rfl))
        try simp only [putAtH]
        refine Plan.go [8, 9, 10, 11, 12, 13, 14, 15, 16, 17, 18] ?_
        iterate 11 (refine skipL (by simp only [opsAt]; rfl) (by kernel_rfl) (by exact fun _ _ _ h => h) (by rfl) (by assumption) ?_; try simp only [putAtH])
        refine Plan.nil ?_
        refine takeH 19 (v := ?_) (by simp only [opsAt]; rfl) (by kernel_rfl) (by exact fun _ _ _ h => h) (by rfl) (by assumption) ?_ ?_
        rotate_left
        · (intro w _; go_simp; try (with_reducible rfl))
        try simp only [putAtH]
        refine wpAnyH_done (by kernel_rfl) ?_ _
        have K3 : Keeps X w3 := by assumption
        go_wp2
        exact ⟨⟨k + 1, by omega, by go_num, kX.trans K3⟩, by simp only [intOf]; omega⟩
      have Hok2 : Hid (decide (A < 0) = false ∧ befB t (s.tasks.getD A.toNat Tsk.zero) = false) := by
        have h1 := Hok.out
        unfold bestOkB at h1
        rw [q1, HA.out] at h1
        show _ ∧ _
        simpa using h1
      obtain ⟨j, hj⟩ : ∃ j : Nat, A = (j : Int) := ⟨A.toNat, by have := Hok2.out.1; simp at this; omega⟩
      subst hj
      have hjn : (j : Int) < (tn : Int) := by omega
      obtain ⟨u, hu⟩ := some_in (xs := s.tasks) (k := j) (by rw [Hn.out]; omega)
      have q2 : befB t u = false := by have := Hok2.out.2; rwa [Int.toNat_natCast, getD_at hu] at this
      obtain ⟨b', off', ha', r0', r1'⟩ := hs1.out.at hu (by omega)
      obtain ⟨rfl, rfl⟩ : b' = b ∧ off' = off := by simpa using ha'.symm
      have r0 : ∀ w', Keeps X w' → w'.cell? ⟨b', off' + j * 14, none⟩ = some (.int .i64 u.no) := fun w' h => r0' w' (kX.trans h)
      have r1 : ∀ w', Keeps X w' → ∀ i, i < 14 → w'.cell? ⟨b', off' + j * 14 + i, none⟩ = (tc u)[i]? := fun w' h => r1' w' (kX.trans h)
      clear Hok Hok2 hu r0' r1' ha' HA
      go_upto_region 8 with fail
      refine wp_region_held_drew (S := (fun w' => Keeps X w')) (by kernel_rfl) ?_ (fun hHeld => ?_)
      · exact k2.drew
      refine Plan.go [0, 1, 2, 3, 4, 5] ?_
      iterate 6 (refine takeL (by simp only [opsAt]; rfl) (by kernel_rfl) (by exact fun _ _ _ h => h) (by rfl) (by assumption) (fun w _ => by go_simp; try (with_reducible rfl)) ?_; try simp only [putAtH])
      refine Plan.nil ?_
      refine callH 6 (by kernel_rfl) (by simp only [opsAt]; rfl) (fun K hK => ?_)
      go_simp
      first
        | (go_at_call 37; refine (hTX.out.can t.no q1 k2.drew).mono ?_; rintro e w3 ⟨rfl, k3⟩)
        | (go_at_call 38; refine (specBefore_any t u _).mono ?_; rintro e w4 ⟨rfl, k4⟩; rw [q2])
      try go_wp2_with fail
      refine hK.out _ _ ?_ (fun hHeld => ?_)
      · exact Keeps.trans (by assumption) (by assumption)
      clear hK K
      try simp only [putAtH]
      refine Plan.go [7, 8, 9, 10, 11, 12, 13, 14, 15, 16] ?_
      iterate 10 (refine takeL (by simp only [opsAt]; rfl) (by kernel_rfl) (by exact fun _ _ _ h => h) (by rfl) (by assumption) (fun w _ => by go_simp; try (with_reducible rfl)) ?_; try simp only [putAtH])
      refine Plan.nil ?_
      refine callH 17 (by kernel_rfl) (by simp only [opsAt]; rfl) (fun K hK => ?_)
      go_simp
      first
        | (go_at_call 37; refine (hTX.out.can t.no q1 k2.drew).mono ?_; rintro e w3 ⟨rfl, k3⟩)
        | (go_at_call 38; refine (specBefore_any t u _).mono ?_; rintro e w4 ⟨rfl, k4⟩; rw [q2])
      try go_wp2_with fail
      refine hK.out _ _ ?_ (fun hHeld => ?_)
      · exact Keeps.trans (by assumption) (by assumption)
      clear hK K
      try simp only [putAtH]
      refine Plan.go [18, 19] ?_
      iterate 2 (refine takeL (by simp only [opsAt]; rfl) (by kernel_rfl) (by exact fun _ _ _ h => h) (by rfl) (by assumption) (fun w _ => by go_simp; try (with_reducible rfl)) ?_; try simp only [putAtH])
      refine Plan.nil ?_
      refine wpAnyH_done (by kernel_rfl) ?_ _
      have K4 : Keeps X w4 := by assumption
      go_wp2
      exact ⟨⟨k + 1, by omega, by go_num, kX.trans K4⟩, by simp only [intOf]; omega⟩
    · have hlt' : decide ((k : Int) < (tn : Int)) = false := by simp; omega
      go_wp2
      go_ret
      exact ⟨by rw [HE.out]; rfl, kW.trans hK⟩

/-- Who took the turns of the first processors. -/
def tookL (s : Sy) (k : Nat) : List Int := (List.range k).map fun (j : Nat) => pickX s.tasks s.locks (j : Int)
theorem tookL_step (s : Sy) (k : Nat) : tookL s (k + 1) = tookL s k ++ [pickX s.tasks s.locks k] := by
  unfold tookL
  rw [List.range_succ, List.map_append]; rfl
theorem tookL_len (s : Sy) (k : Nat) : (tookL s k).length = k := by simp [tookL]
theorem tookL_new {s : Sy} (R : SysR s) {k : Nat} (hk : (k : Int) < s.cpus) (h : 0 < pickX s.tasks s.locks k) : hasB (tookL s k) (pickX s.tasks s.locks k) = false := by
  have h1 := List.all_eq_true.1 (alone_yes R) k (List.mem_range.2 (by omega))
  unfold aloneAtB at h1
  rw [decide_eq_true h, Bool.true_and, Bool.not_eq_true', List.any_eq_false] at h1
  rw [hasB_no]
  intro hm
  unfold tookL at hm
  rw [List.mem_map] at hm
  obtain ⟨j, hj, e⟩ := hm
  exact h1 j hj (by rw [beq_iff_eq]; exact e)

set_option maxRecDepth 100000 in
set_option maxHeartbeats 4000000 in
theorem specJudgeAlone_any {w : World} {v : Sv} {s : Sy} (h : SysOn w v s) :
    Calls Tryz.prog 21 #[.agg (syc s v)] w fun e w' => e = .returned (.bool (judgeAloneB s)) ∧ Keeps w w' := by
  have kW : Keeps w (w.alloc (.cells (syc s v) 30)) := (Keeps.refl w).alloc _
  have hb : ∀ w', Keeps (w.alloc (.cells (syc s v) 30)) w' → ∀ j, w'.cell? ⟨w.heap.size, j, none⟩ = (syc s v)[j]? := fun w' k => ((Blk.new w (syc s v) 30).keeps k).cells
  have hS : Hid (SysOn (w.alloc (.cells (syc s v) 30)) v s) := h.keeps kW
  have hTw : Hid (Two (w.alloc (.cells (syc s v) 30)) v.t.a v.t.n v.t.cap s.tasks v.l.a v.l.n v.l.cap s.locks) := ⟨hS.out.onT, hS.out.onL⟩
  clear h
  go_enter Tryz.func21, Tryz.ntmps21
  go_wp2_with fail
  generalize w.alloc (.cells (syc s v) 30) = W at *
  refine (specSysOk_any hS.out).mono ?_
  rintro e w1 ⟨rfl, k1⟩
  cases c1 : sysB s
  · have Hr : Hid (judgeAloneB s = false) := by show _ = _; unfold judgeAloneB; rw [c1]; rfl
    go_wp2
    go_ret
    exact ⟨by rw [Hr.out]; rfl, kW.trans k1⟩
  have HR : Hid (SysR s) := sysB_iff.1 c1
  have HE : Hid (judgeAloneB s = true) := by show _ = _; unfold judgeAloneB; rw [c1, alone_yes HR.out]; rfl
  have hc4 : s.cpus ≤ 4 := HR.out.cpus.2
  clear c1 hS
  go_wp2_with fail
  have O0 : Hid (OwnN (w1.alloc (.cells #[] 3)) w1.heap.size (.slice (some ⟨w1.heap.size, 0, none⟩) 0 0) []) := Own.new 3 1 ic _ (Nat.le_refl _)
  go_loopw [3, 4] (fun o i wr => ∃ k : Nat, (k : Int) ≤ s.cpus ∧ i = .int .i64 k ∧ Hid (OwnN wr w1.heap.size o (tookL s k)) ∧ Keeps w1 wr) (fun _ i _ => s.cpus.toNat - (intOf i).toNat)
  case atStart => exact ⟨0, by have := HR.out.cpus; omega, rfl, O0, (Keeps.refl _).alloc _⟩
  case round =>
    obtain ⟨k, hk, rfl, O, hK1⟩ := hrel
    clear O0
    have hK : Keeps W wr := k1.trans hK1
    by_cases hlt : (k : Int) < s.cpus
    · obtain ⟨xs, HX⟩ : ∃ xs, Hid (tookL s k = xs) := ⟨_, rfl⟩
      have hxl : xs.length = k := by rw [← HX.out]; exact tookL_len s k
      obtain ⟨x, Hx⟩ : ∃ x, Hid (pickX s.tasks s.locks (k : Int) = x) := ⟨_, rfl⟩
      obtain ⟨no, Hno⟩ : ∃ x, Hid (pickNo s.tasks s.locks (k : Int) = x) := ⟨_, rfl⟩
      have Hstep : Hid (tookL s (k + 1) = xs ++ [x]) := by show _ = _; rw [tookL_step, HX.out, Hx.out]
      have Hnew : Hid (0 < x → hasB xs x = false) := by rw [← HX.out, ← Hx.out]; exact tookL_new HR.out hlt
      rw [HX.out] at O
      have PK : Hid (Calls Tryz.prog 39 #[.slice v.t.a v.t.n v.t.cap, .slice v.l.a v.l.n v.l.cap, .int .i64 (k : Int)] wr fun e w' => e = .returned (.tuple #[.int .i64 no, .int .i64 x]) ∧ Keeps wr w') := by
        have := specPick_any (hTw.out.keeps hK) (k : Int)
        rw [Hno.out, Hx.out] at this
        exact this
      have HasC : Hid (∀ (o : Value) w', OwnN w' w1.heap.size o xs → Calls Tryz.prog 40 #[o, .int .i64 x] w' fun e w'' => e = .returned (.bool (hasB xs x)) ∧ Keeps w' w'') := fun o w' ho => by
        obtain ⟨a, cap, rfl, hn, h1, h2⟩ := ho.ns
        exact specHas_any a cap xs x w' (by omega) hn
      clear HX Hx Hno
      go_wp2_with fail
      refine PK.out.mono ?_
      rintro e w2 ⟨rfl, k2⟩
      have O2 : Hid (OwnN w2 w1.heap.size _ xs) := O.out.keeps k2
      have K2 : Keeps w1 w2 := hK1.trans k2
      clear PK O k2 hK1 hK
      cases q1 : decide (0 < x)
      · go_wp2_with (at_builtin; (refine wpList_push rfl _ _ 27 rfl w1 3 (.int .i64 0) 1 8 ic Tryz.underlying27 (by kernel_rfl) rfl (by decide) ic_size ic_one _ xs rfl w2 O2.out K2 ((Keeps.refl _).alloc _) x _ 1 (Blk.new _ _ _) rfl ?c1 ?c2 ?_))
        case c1 => unfold maxLen; omega
        case c2 => omega
        intro v' w5 own5 k5 _
        have HO : Hid (OwnN w5 w1.heap.size v' (tookL s (k + 1))) := by rw [Hstep.out]; exact own5
        clear own5 O2 Hstep
        go_wp2
        exact ⟨⟨k + 1, by omega, by go_num, HO, k5⟩, by simp only [intOf]; omega⟩
      · have q2 : hasB xs x = false := Hnew.out (of_decide_eq_true q1)
        rw [q2] at HasC
        go_wp2_with fail
        refine (HasC.out _ w2 O2.out).mono ?_
        rintro e w3 ⟨rfl, k3⟩
        have O3 : Hid (OwnN w3 w1.heap.size _ xs) := O2.out.keeps k3
        have K3 : Keeps w1 w3 := K2.trans k3
        clear O2 K2 k3
        go_wp2_with (at_builtin; (refine wpList_push rfl _ _ 27 rfl w1 3 (.int .i64 0) 1 8 ic Tryz.underlying27 (by kernel_rfl) rfl (by decide) ic_size ic_one _ xs rfl w3 O3.out K3 ((Keeps.refl _).alloc _) x _ 1 (Blk.new _ _ _) rfl ?c1 ?c2 ?_))
        case c1 => unfold maxLen; omega
        case c2 => omega
        intro v' w5 own5 k5 _
        have HO : Hid (OwnN w5 w1.heap.size v' (tookL s (k + 1))) := by rw [Hstep.out]; exact own5
        clear own5 O3 Hstep
        go_wp2
        exact ⟨⟨k + 1, by omega, by go_num, HO, k5⟩, by simp only [intOf]; omega⟩
    · have hlt' : decide ((k : Int) < s.cpus) = false := by simp; omega
      go_wp2
      go_ret
      exact ⟨by rw [HE.out]; rfl, kW.trans hK⟩

set_option maxRecDepth 100000 in
set_option maxHeartbeats 4000000 in
theorem specJudgeAll_any {w : World} {v : Sv} {s : Sy} (h : SysOn w v s) :
    Calls Tryz.prog 27 #[.agg (syc s v)] w fun e w' => e = .returned (.bool (judgeAllB s)) ∧ Keeps w w' := by
  have kW : Keeps w (w.alloc (.cells (syc s v) 30)) := (Keeps.refl w).alloc _
  have hb : ∀ w', Keeps (w.alloc (.cells (syc s v) 30)) w' → ∀ j, w'.cell? ⟨w.heap.size, j, none⟩ = (syc s v)[j]? := fun w' k => ((Blk.new w (syc s v) 30).keeps k).cells
  have hS : Hid (SysOn (w.alloc (.cells (syc s v) 30)) v s) := h.keeps kW
  clear h
  have HE : Hid (judgeAllB s = (judgeTurnsB s && (judgeDueB s && (judgeFairB s && (judgeBestB s && judgeAloneB s))))) := rfl
  go_enter Tryz.func27, Tryz.ntmps27
  go_wp2_with fail
  generalize w.alloc (.cells (syc s v) 30) = W at *
  refine (specJudgeTurns_any hS.out).mono ?_
  rintro e w1 ⟨rfl, k1⟩
  cases c1 : judgeTurnsB s
  · have Hr : Hid (judgeAllB s = false) := by show _ = _; rw [HE.out, c1]; rfl
    go_wp2
    go_ret
    exact ⟨by rw [Hr.out]; rfl, kW.trans k1⟩
  go_wp2_with fail
  refine (specJudgeDue_any (hS.out.keeps k1)).mono ?_
  rintro e w2 ⟨rfl, k2⟩
  have K2 := k1.trans k2
  clear k1 k2
  cases c2 : judgeDueB s
  · have Hr : Hid (judgeAllB s = false) := by show _ = _; rw [HE.out, c1, c2]; rfl
    go_wp2
    go_ret
    exact ⟨by rw [Hr.out]; rfl, kW.trans K2⟩
  go_wp2_with fail
  refine (specJudgeFair_any (hS.out.keeps K2)).mono ?_
  rintro e w3 ⟨rfl, k3⟩
  have K3 := K2.trans k3
  clear K2 k3
  cases c3 : judgeFairB s
  · have Hr : Hid (judgeAllB s = false) := by show _ = _; rw [HE.out, c1, c2, c3]; rfl
    go_wp2
    go_ret
    exact ⟨by rw [Hr.out]; rfl, kW.trans K3⟩
  go_wp2_with fail
  refine (specJudgeBest_any (hS.out.keeps K3)).mono ?_
  rintro e w4 ⟨rfl, k4⟩
  have K4 := K3.trans k4
  clear K3 k4
  cases c4 : judgeBestB s
  · have Hr : Hid (judgeAllB s = false) := by show _ = _; rw [HE.out, c1, c2, c3, c4]; rfl
    go_wp2
    go_ret
    exact ⟨by rw [Hr.out]; rfl, kW.trans K4⟩
  go_wp2_with fail
  refine (specJudgeAlone_any (hS.out.keeps K4)).mono ?_
  rintro e w5 ⟨rfl, k5⟩
  have K5 := K4.trans k5
  clear K4 k5
  have Hr : Hid (judgeAllB s = judgeAloneB s) := by show _ = _; rw [HE.out, c1, c2, c3, c4]; rfl
  obtain ⟨z, Hz⟩ : ∃ z, Hid (judgeAloneB s = z) := ⟨_, rfl⟩
  rw [Hz.out] at Hr ⊢
  clear Hz
  go_wp2
  go_ret
  exact ⟨by rw [Hr.out]; rfl, kW.trans K5⟩
end Go.Proofs.YthobpahnmmdbiaaGreatDoor
namespace Go.Proofs.YthobpahnmmdbiaaGreatDoor
open Go.RowKit
attribute [local go_sem] Keeps.refl Keeps.alloc Keeps.drew Keeps.drewN

def SaysJudgeTurns : Prop := ∀ (w : World) (v : Sv) (s : Sy), GlobE w → SysOn w v s → Calls Tryz.prog 12 #[.agg (syc s v)] w fun e w' => e = .returned (.bool (judgeTurnsB s)) ∧ Keeps w w'
def SaysJudgeDue : Prop := ∀ (w : World) (v : Sv) (s : Sy), GlobE w → SysOn w v s → Calls Tryz.prog 13 #[.agg (syc s v)] w fun e w' => e = .returned (.bool (judgeDueB s)) ∧ Keeps w w'
def SaysJudgeFair : Prop := ∀ (w : World) (v : Sv) (s : Sy), GlobE w → SysOn w v s → Calls Tryz.prog 14 #[.agg (syc s v)] w fun e w' => e = .returned (.bool (judgeFairB s)) ∧ Keeps w w'
def SaysJudgeBest : Prop := ∀ (w : World) (v : Sv) (s : Sy), GlobE w → SysOn w v s → Calls Tryz.prog 15 #[.agg (syc s v)] w fun e w' => e = .returned (.bool (judgeBestB s)) ∧ Keeps w w'
def SaysJudgeAlone : Prop := ∀ (w : World) (v : Sv) (s : Sy), GlobE w → SysOn w v s → Calls Tryz.prog 16 #[.agg (syc s v)] w fun e w' => e = .returned (.bool (judgeAloneB s)) ∧ Keeps w w'
def SaysJudgeAll : Prop := ∀ (w : World) (v : Sv) (s : Sy), GlobE w → SysOn w v s → Calls Tryz.prog 23 #[.agg (syc s v)] w fun e w' => e = .returned (.bool (judgeAllB s)) ∧ Keeps w w'
set_option maxRecDepth 100000 in
set_option maxHeartbeats 8000000 in
theorem exactJudgeTurns_walk (H : SaysJudgeTurns) {p : Bool} {w : World} (hg : GlobE w) {v : Sv} {s : Sy} (h : SysLay p w v s) :
    Calls Tryz.prog 4 #[.agg (syc s v)] w fun e w' => e = .returned (.bool true) ∧ Keeps w w' := by
  have HH : Hid SaysJudgeTurns := H
  clear H
  have kW : Keeps w (w.alloc (.cells (syc s v) 38)) := (Keeps.refl w).alloc _
  have r0 : ∀ w', Keeps (w.alloc (.cells (syc s v) 38)) w' → ∀ j, w'.cell? ⟨w.heap.size, j, none⟩ = (syc s v)[j]? := fun w' k => ((Blk.new w (syc s v) 38).keeps k).cells
  have HS : Hid (SysLay p (w.alloc (.cells (syc s v) 38)) v s) := h.keeps kW
  have HG : Hid (GlobE (w.alloc (.cells (syc s v) 38))) := hg.keeps kW
  clear h hg
  obtain ⟨g, Hg⟩ : ∃ g, Hid (judgeTurnsB s = g) := ⟨_, rfl⟩
  have n0 : (g != g) = false := by simp
  go_enter Tryz.func4, Tryz.ntmps4
  go_wp2_with fail
  generalize w.alloc (.cells (syc s v) 38) = W at *
  refine (szSys_any HS.out).mono ?_
  rintro e w1 ⟨rfl, k1⟩
  by_cases hz : sizeS s ≤ 1048576
  rotate_left
  · have Hz : Hid (szSysL s 1048576 = -1) := if_neg (by omega)
    rw [Hz.out]
    go_wp2
    go_ret
    exact ⟨rfl, kW.trans k1⟩
  have Hz : Hid (sizeS s ≤ 1048576) := hz
  obtain ⟨q, Hq, hq0⟩ : ∃ q : Int, Hid (szSysL s 1048576 = q) ∧ 0 ≤ q := ⟨_, rfl, by unfold szSysL; rw [if_pos (by omega)]; omega⟩
  rw [Hq.out]
  have hq : decide (q < 0) = false := by simp; omega
  clear hz Hq
  go_wp2_with fail
  refine (toSys_any (HS.out.keeps k1) Hz.out).mono ?_
  rintro e w2 ⟨v2, vs2, rfl, O2, k2⟩
  have S2 : Hid (SysOn w2 v2 s) := O2.on (by have := Hz.out; omega)
  have K2 : Keeps W w2 := k1.trans k2
  clear O2 k1 k2
  go_wp2_with fail
  refine (specJudgeTurns_any S2.out).mono ?_
  rintro e w3 ⟨rfl, k3⟩
  rw [Hg.out]
  have K3 : Keeps W w3 := K2.trans k3
  clear S2 K2 k3
  go_wp2_with fail
  refine (toSys_any (HS.out.keeps K3) Hz.out).mono ?_
  rintro e w4 ⟨v4, vs4, rfl, O4, k4⟩
  have S4 : Hid (SysOn (w4.alloc (.cells (syc s v4) 30)) v4 s) := (O4.on (by have := Hz.out; omega)).keeps ((Keeps.refl _).alloc _)
  have K4 : Keeps W (w4.alloc (.cells (syc s v4) 30)) := (K3.trans k4).alloc _
  have rx : ∀ w', Keeps (w4.alloc (.cells (syc s v4) 30)) w' → ∀ j, w'.cell? ⟨w4.heap.size, j, none⟩ = (syc s v4)[j]? := fun w' k => ((Blk.new w4 (syc s v4) 30).keeps k).cells
  have r1 : ∀ w', Keeps (w4.alloc (.cells (syc s v4) 30)) w' → ∀ j, w'.cell? ⟨w.heap.size, j, none⟩ = (syc s v)[j]? := fun w' k => r0 w' (K4.trans k)
  clear O4 k4 K3
  go_wp2_with fail
  change Calls _ _ _ (w4.alloc (.cells (syc s v4) 30)) _
  generalize w4.alloc (.cells (syc s v4) 30) = X at *
  refine (HH.out X v4 s (HG.out.keeps K4) S4.out).mono ?_
  rintro e w5 ⟨rfl, k5⟩
  rw [Hg.out]
  clear r0
  go_wp2_with fail
  refine wp_region_held_drew (S := (fun w' => Keeps X w')) (by kernel_rfl) ?_ (fun hHeld => ?_)
  · exact k5.drew
  refine Plan.go [0, 1] ?_
  iterate 2 (refine takeL (by simp only [opsAt]; rfl) (by kernel_rfl) (by exact fun _ _ _ h => h) (by rfl) (by assumption) (fun w _ => by go_simp; try (with_reducible rfl)) ?_; try simp only [putAtH])
  refine Plan.nil ?_
  refine callH 2 (by kernel_rfl) (by simp only [opsAt]; rfl) (fun K hK => ?_)
  go_simp
  first
    | (go_at_call 25; refine (toSys_any (HS.out.keeps (K4.trans k5.drew)) Hz.out).mono ?_; rintro e w6 ⟨v6, vs6, rfl, O6, k6⟩; have S6 : Hid (SysOn w6 v6 s) := O6.on (by have := Hz.out; omega); clear O6)
    | (go_at_call 26; refine (eqSys_same (S4.out.lay.keeps (k5.drew.trans k6)) S6.out.lay).mono ?_; rintro e w7 ⟨rfl, k7⟩)
  try go_wp2_with fail
  refine hK.out _ _ ?_ (fun hHeld => ?_)
  · exact Keeps.trans (by assumption) (by assumption)
  clear hK K
  try simp only [putAtH]
  refine callH 3 (by kernel_rfl) (by simp only [opsAt]; rfl) (fun K hK => ?_)
  go_simp
  first
    | (go_at_call 25; refine (toSys_any (HS.out.keeps (K4.trans k5.drew)) Hz.out).mono ?_; rintro e w6 ⟨v6, vs6, rfl, O6, k6⟩; have S6 : Hid (SysOn w6 v6 s) := O6.on (by have := Hz.out; omega); clear O6)
    | (go_at_call 26; refine (eqSys_same (S4.out.lay.keeps (k5.drew.trans k6)) S6.out.lay).mono ?_; rintro e w7 ⟨rfl, k7⟩)
  try go_wp2_with fail
  refine hK.out _ _ ?_ (fun hHeld => ?_)
  · exact Keeps.trans (by assumption) (by assumption)
  clear hK K
  try simp only [putAtH]
  refine takeH 4 (v := ?_) (by simp only [opsAt]; rfl) (by kernel_rfl) (by exact fun _ _ _ h => h) (by rfl) (by assumption) ?_ ?_
  rotate_left
  · (intro w _; go_simp; try (with_reducible rfl))
  try simp only [putAtH]
  refine wpAnyH_done (by kernel_rfl) ?_ _
  have K7 : Keeps X w7 := by assumption
  go_wp2
  go_ret
  exact ⟨rfl, kW.trans (K4.trans K7)⟩
set_option maxRecDepth 100000 in
set_option maxHeartbeats 8000000 in
theorem exactJudgeDue_walk (H : SaysJudgeDue) {p : Bool} {w : World} (hg : GlobE w) {v : Sv} {s : Sy} (h : SysLay p w v s) :
    Calls Tryz.prog 5 #[.agg (syc s v)] w fun e w' => e = .returned (.bool true) ∧ Keeps w w' := by
  have HH : Hid SaysJudgeDue := H
  clear H
  have kW : Keeps w (w.alloc (.cells (syc s v) 38)) := (Keeps.refl w).alloc _
  have r0 : ∀ w', Keeps (w.alloc (.cells (syc s v) 38)) w' → ∀ j, w'.cell? ⟨w.heap.size, j, none⟩ = (syc s v)[j]? := fun w' k => ((Blk.new w (syc s v) 38).keeps k).cells
  have HS : Hid (SysLay p (w.alloc (.cells (syc s v) 38)) v s) := h.keeps kW
  have HG : Hid (GlobE (w.alloc (.cells (syc s v) 38))) := hg.keeps kW
  clear h hg
  obtain ⟨g, Hg⟩ : ∃ g, Hid (judgeDueB s = g) := ⟨_, rfl⟩
  have n0 : (g != g) = false := by simp
  go_enter Tryz.func5, Tryz.ntmps5
  go_wp2_with fail
  generalize w.alloc (.cells (syc s v) 38) = W at *
  refine (szSys_any HS.out).mono ?_
  rintro e w1 ⟨rfl, k1⟩
  by_cases hz : sizeS s ≤ 1048576
  rotate_left
  · have Hz : Hid (szSysL s 1048576 = -1) := if_neg (by omega)
    rw [Hz.out]
    go_wp2
    go_ret
    exact ⟨rfl, kW.trans k1⟩
  have Hz : Hid (sizeS s ≤ 1048576) := hz
  obtain ⟨q, Hq, hq0⟩ : ∃ q : Int, Hid (szSysL s 1048576 = q) ∧ 0 ≤ q := ⟨_, rfl, by unfold szSysL; rw [if_pos (by omega)]; omega⟩
  rw [Hq.out]
  have hq : decide (q < 0) = false := by simp; omega
  clear hz Hq
  go_wp2_with fail
  refine (toSys_any (HS.out.keeps k1) Hz.out).mono ?_
  rintro e w2 ⟨v2, vs2, rfl, O2, k2⟩
  have S2 : Hid (SysOn w2 v2 s) := O2.on (by have := Hz.out; omega)
  have K2 : Keeps W w2 := k1.trans k2
  clear O2 k1 k2
  go_wp2_with fail
  refine (specJudgeDue_any S2.out).mono ?_
  rintro e w3 ⟨rfl, k3⟩
  rw [Hg.out]
  have K3 : Keeps W w3 := K2.trans k3
  clear S2 K2 k3
  go_wp2_with fail
  refine (toSys_any (HS.out.keeps K3) Hz.out).mono ?_
  rintro e w4 ⟨v4, vs4, rfl, O4, k4⟩
  have S4 : Hid (SysOn (w4.alloc (.cells (syc s v4) 30)) v4 s) := (O4.on (by have := Hz.out; omega)).keeps ((Keeps.refl _).alloc _)
  have K4 : Keeps W (w4.alloc (.cells (syc s v4) 30)) := (K3.trans k4).alloc _
  have rx : ∀ w', Keeps (w4.alloc (.cells (syc s v4) 30)) w' → ∀ j, w'.cell? ⟨w4.heap.size, j, none⟩ = (syc s v4)[j]? := fun w' k => ((Blk.new w4 (syc s v4) 30).keeps k).cells
  have r1 : ∀ w', Keeps (w4.alloc (.cells (syc s v4) 30)) w' → ∀ j, w'.cell? ⟨w.heap.size, j, none⟩ = (syc s v)[j]? := fun w' k => r0 w' (K4.trans k)
  clear O4 k4 K3
  go_wp2_with fail
  change Calls _ _ _ (w4.alloc (.cells (syc s v4) 30)) _
  generalize w4.alloc (.cells (syc s v4) 30) = X at *
  refine (HH.out X v4 s (HG.out.keeps K4) S4.out).mono ?_
  rintro e w5 ⟨rfl, k5⟩
  rw [Hg.out]
  clear r0
  go_wp2_with fail
  refine wp_region_held_drew (S := (fun w' => Keeps X w')) (by kernel_rfl) ?_ (fun hHeld => ?_)
  · exact k5.drew
  refine Plan.go [0, 1] ?_
  iterate 2 (refine takeL (by simp only [opsAt]; rfl) (by kernel_rfl) (by exact fun _ _ _ h => h) (by rfl) (by assumption) (fun w _ => by go_simp; try (with_reducible rfl)) ?_; try simp only [putAtH])
  refine Plan.nil ?_
  refine callH 2 (by kernel_rfl) (by simp only [opsAt]; rfl) (fun K hK => ?_)
  go_simp
  first
    | (go_at_call 25; refine (toSys_any (HS.out.keeps (K4.trans k5.drew)) Hz.out).mono ?_; rintro e w6 ⟨v6, vs6, rfl, O6, k6⟩; have S6 : Hid (SysOn w6 v6 s) := O6.on (by have := Hz.out; omega); clear O6)
    | (go_at_call 26; refine (eqSys_same (S4.out.lay.keeps (k5.drew.trans k6)) S6.out.lay).mono ?_; rintro e w7 ⟨rfl, k7⟩)
  try go_wp2_with fail
  refine hK.out _ _ ?_ (fun hHeld => ?_)
  · exact Keeps.trans (by assumption) (by assumption)
  clear hK K
  try simp only [putAtH]
  refine callH 3 (by kernel_rfl) (by simp only [opsAt]; rfl) (fun K hK => ?_)
  go_simp
  first
    | (go_at_call 25; refine (toSys_any (HS.out.keeps (K4.trans k5.drew)) Hz.out).mono ?_; rintro e w6 ⟨v6, vs6, rfl, O6, k6⟩; have S6 : Hid (SysOn w6 v6 s) := O6.on (by have := Hz.out; omega); clear O6)
    | (go_at_call 26; refine (eqSys_same (S4.out.lay.keeps (k5.drew.trans k6)) S6.out.lay).mono ?_; rintro e w7 ⟨rfl, k7⟩)
  try go_wp2_with fail
  refine hK.out _ _ ?_ (fun hHeld => ?_)
  · exact Keeps.trans (by assumption) (by assumption)
  clear hK K
  try simp only [putAtH]
  refine takeH 4 (v := ?_) (by simp only [opsAt]; rfl) (by kernel_rfl) (by exact fun _ _ _ h => h) (by rfl) (by assumption) ?_ ?_
  rotate_left
  · (intro w _; go_simp; try (with_reducible rfl))
  try simp only [putAtH]
  refine wpAnyH_done (by kernel_rfl) ?_ _
  have K7 : Keeps X w7 := by assumption
  go_wp2
  go_ret
  exact ⟨rfl, kW.trans (K4.trans K7)⟩
set_option maxRecDepth 100000 in
set_option maxHeartbeats 8000000 in
theorem exactJudgeFair_walk (H : SaysJudgeFair) {p : Bool} {w : World} (hg : GlobE w) {v : Sv} {s : Sy} (h : SysLay p w v s) :
    Calls Tryz.prog 6 #[.agg (syc s v)] w fun e w' => e = .returned (.bool true) ∧ Keeps w w' := by
  have HH : Hid SaysJudgeFair := H
  clear H
  have kW : Keeps w (w.alloc (.cells (syc s v) 38)) := (Keeps.refl w).alloc _
  have r0 : ∀ w', Keeps (w.alloc (.cells (syc s v) 38)) w' → ∀ j, w'.cell? ⟨w.heap.size, j, none⟩ = (syc s v)[j]? := fun w' k => ((Blk.new w (syc s v) 38).keeps k).cells
  have HS : Hid (SysLay p (w.alloc (.cells (syc s v) 38)) v s) := h.keeps kW
  have HG : Hid (GlobE (w.alloc (.cells (syc s v) 38))) := hg.keeps kW
  clear h hg
  obtain ⟨g, Hg⟩ : ∃ g, Hid (judgeFairB s = g) := ⟨_, rfl⟩
  have n0 : (g != g) = false := by simp
  go_enter Tryz.func6, Tryz.ntmps6
  go_wp2_with fail
  generalize w.alloc (.cells (syc s v) 38) = W at *
  refine (szSys_any HS.out).mono ?_
  rintro e w1 ⟨rfl, k1⟩
  by_cases hz : sizeS s ≤ 1048576
  rotate_left
  · have Hz : Hid (szSysL s 1048576 = -1) := if_neg (by omega)
    rw [Hz.out]
    go_wp2
    go_ret
    exact ⟨rfl, kW.trans k1⟩
  have Hz : Hid (sizeS s ≤ 1048576) := hz
  obtain ⟨q, Hq, hq0⟩ : ∃ q : Int, Hid (szSysL s 1048576 = q) ∧ 0 ≤ q := ⟨_, rfl, by unfold szSysL; rw [if_pos (by omega)]; omega⟩
  rw [Hq.out]
  have hq : decide (q < 0) = false := by simp; omega
  clear hz Hq
  go_wp2_with fail
  refine (toSys_any (HS.out.keeps k1) Hz.out).mono ?_
  rintro e w2 ⟨v2, vs2, rfl, O2, k2⟩
  have S2 : Hid (SysOn w2 v2 s) := O2.on (by have := Hz.out; omega)
  have K2 : Keeps W w2 := k1.trans k2
  clear O2 k1 k2
  go_wp2_with fail
  refine (specJudgeFair_any S2.out).mono ?_
  rintro e w3 ⟨rfl, k3⟩
  rw [Hg.out]
  have K3 : Keeps W w3 := K2.trans k3
  clear S2 K2 k3
  go_wp2_with fail
  refine (toSys_any (HS.out.keeps K3) Hz.out).mono ?_
  rintro e w4 ⟨v4, vs4, rfl, O4, k4⟩
  have S4 : Hid (SysOn (w4.alloc (.cells (syc s v4) 30)) v4 s) := (O4.on (by have := Hz.out; omega)).keeps ((Keeps.refl _).alloc _)
  have K4 : Keeps W (w4.alloc (.cells (syc s v4) 30)) := (K3.trans k4).alloc _
  have rx : ∀ w', Keeps (w4.alloc (.cells (syc s v4) 30)) w' → ∀ j, w'.cell? ⟨w4.heap.size, j, none⟩ = (syc s v4)[j]? := fun w' k => ((Blk.new w4 (syc s v4) 30).keeps k).cells
  have r1 : ∀ w', Keeps (w4.alloc (.cells (syc s v4) 30)) w' → ∀ j, w'.cell? ⟨w.heap.size, j, none⟩ = (syc s v)[j]? := fun w' k => r0 w' (K4.trans k)
  clear O4 k4 K3
  go_wp2_with fail
  change Calls _ _ _ (w4.alloc (.cells (syc s v4) 30)) _
  generalize w4.alloc (.cells (syc s v4) 30) = X at *
  refine (HH.out X v4 s (HG.out.keeps K4) S4.out).mono ?_
  rintro e w5 ⟨rfl, k5⟩
  rw [Hg.out]
  clear r0
  go_wp2_with fail
  refine wp_region_held_drew (S := (fun w' => Keeps X w')) (by kernel_rfl) ?_ (fun hHeld => ?_)
  · exact k5.drew
  refine Plan.go [0, 1] ?_
  iterate 2 (refine takeL (by simp only [opsAt]; rfl) (by kernel_rfl) (by exact fun _ _ _ h => h) (by rfl) (by assumption) (fun w _ => by go_simp; try (with_reducible rfl)) ?_; try simp only [putAtH])
  refine Plan.nil ?_
  refine callH 2 (by kernel_rfl) (by simp only [opsAt]; rfl) (fun K hK => ?_)
  go_simp
  first
    | (go_at_call 25; refine (toSys_any (HS.out.keeps (K4.trans k5.drew)) Hz.out).mono ?_; rintro e w6 ⟨v6, vs6, rfl, O6, k6⟩; have S6 : Hid (SysOn w6 v6 s) := O6.on (by have := Hz.out; omega); clear O6)
    | (go_at_call 26; refine (eqSys_same (S4.out.lay.keeps (k5.drew.trans k6)) S6.out.lay).mono ?_; rintro e w7 ⟨rfl, k7⟩)
  try go_wp2_with fail
  refine hK.out _ _ ?_ (fun hHeld => ?_)
  · exact Keeps.trans (by assumption) (by assumption)
  clear hK K
  try simp only [putAtH]
  refine callH 3 (by kernel_rfl) (by simp only [opsAt]; rfl) (fun K hK => ?_)
  go_simp
  first
    | (go_at_call 25; refine (toSys_any (HS.out.keeps (K4.trans k5.drew)) Hz.out).mono ?_; rintro e w6 ⟨v6, vs6, rfl, O6, k6⟩; have S6 : Hid (SysOn w6 v6 s) := O6.on (by have := Hz.out; omega); clear O6)
    | (go_at_call 26; refine (eqSys_same (S4.out.lay.keeps (k5.drew.trans k6)) S6.out.lay).mono ?_; rintro e w7 ⟨rfl, k7⟩)
  try go_wp2_with fail
  refine hK.out _ _ ?_ (fun hHeld => ?_)
  · exact Keeps.trans (by assumption) (by assumption)
  clear hK K
  try simp only [putAtH]
  refine takeH 4 (v := ?_) (by simp only [opsAt]; rfl) (by kernel_rfl) (by exact fun _ _ _ h => h) (by rfl) (by assumption) ?_ ?_
  rotate_left
  · (intro w _; go_simp; try (with_reducible rfl))
  try simp only [putAtH]
  refine wpAnyH_done (by kernel_rfl) ?_ _
  have K7 : Keeps X w7 := by assumption
  go_wp2
  go_ret
  exact ⟨rfl, kW.trans (K4.trans K7)⟩
set_option maxRecDepth 100000 in
set_option maxHeartbeats 8000000 in
theorem exactJudgeBest_walk (H : SaysJudgeBest) {p : Bool} {w : World} (hg : GlobE w) {v : Sv} {s : Sy} (h : SysLay p w v s) :
    Calls Tryz.prog 7 #[.agg (syc s v)] w fun e w' => e = .returned (.bool true) ∧ Keeps w w' := by
  have HH : Hid SaysJudgeBest := H
  clear H
  have kW : Keeps w (w.alloc (.cells (syc s v) 38)) := (Keeps.refl w).alloc _
  have r0 : ∀ w', Keeps (w.alloc (.cells (syc s v) 38)) w' → ∀ j, w'.cell? ⟨w.heap.size, j, none⟩ = (syc s v)[j]? := fun w' k => ((Blk.new w (syc s v) 38).keeps k).cells
  have HS : Hid (SysLay p (w.alloc (.cells (syc s v) 38)) v s) := h.keeps kW
  have HG : Hid (GlobE (w.alloc (.cells (syc s v) 38))) := hg.keeps kW
  clear h hg
  obtain ⟨g, Hg⟩ : ∃ g, Hid (judgeBestB s = g) := ⟨_, rfl⟩
  have n0 : (g != g) = false := by simp
  go_enter Tryz.func7, Tryz.ntmps7
  go_wp2_with fail
  generalize w.alloc (.cells (syc s v) 38) = W at *
  refine (szSys_any HS.out).mono ?_
  rintro e w1 ⟨rfl, k1⟩
  by_cases hz : sizeS s ≤ 1048576
  rotate_left
  · have Hz : Hid (szSysL s 1048576 = -1) := if_neg (by omega)
    rw [Hz.out]
    go_wp2
    go_ret
    exact ⟨rfl, kW.trans k1⟩
  have Hz : Hid (sizeS s ≤ 1048576) := hz
  obtain ⟨q, Hq, hq0⟩ : ∃ q : Int, Hid (szSysL s 1048576 = q) ∧ 0 ≤ q := ⟨_, rfl, by unfold szSysL; rw [if_pos (by omega)]; omega⟩
  rw [Hq.out]
  have hq : decide (q < 0) = false := by simp; omega
  clear hz Hq
  go_wp2_with fail
  refine (toSys_any (HS.out.keeps k1) Hz.out).mono ?_
  rintro e w2 ⟨v2, vs2, rfl, O2, k2⟩
  have S2 : Hid (SysOn w2 v2 s) := O2.on (by have := Hz.out; omega)
  have K2 : Keeps W w2 := k1.trans k2
  clear O2 k1 k2
  go_wp2_with fail
  refine (specJudgeBest_any S2.out).mono ?_
  rintro e w3 ⟨rfl, k3⟩
  rw [Hg.out]
  have K3 : Keeps W w3 := K2.trans k3
  clear S2 K2 k3
  go_wp2_with fail
  refine (toSys_any (HS.out.keeps K3) Hz.out).mono ?_
  rintro e w4 ⟨v4, vs4, rfl, O4, k4⟩
  have S4 : Hid (SysOn (w4.alloc (.cells (syc s v4) 30)) v4 s) := (O4.on (by have := Hz.out; omega)).keeps ((Keeps.refl _).alloc _)
  have K4 : Keeps W (w4.alloc (.cells (syc s v4) 30)) := (K3.trans k4).alloc _
  have rx : ∀ w', Keeps (w4.alloc (.cells (syc s v4) 30)) w' → ∀ j, w'.cell? ⟨w4.heap.size, j, none⟩ = (syc s v4)[j]? := fun w' k => ((Blk.new w4 (syc s v4) 30).keeps k).cells
  have r1 : ∀ w', Keeps (w4.alloc (.cells (syc s v4) 30)) w' → ∀ j, w'.cell? ⟨w.heap.size, j, none⟩ = (syc s v)[j]? := fun w' k => r0 w' (K4.trans k)
  clear O4 k4 K3
  go_wp2_with fail
  change Calls _ _ _ (w4.alloc (.cells (syc s v4) 30)) _
  generalize w4.alloc (.cells (syc s v4) 30) = X at *
  refine (HH.out X v4 s (HG.out.keeps K4) S4.out).mono ?_
  rintro e w5 ⟨rfl, k5⟩
  rw [Hg.out]
  clear r0
  go_wp2_with fail
  refine wp_region_held_drew (S := (fun w' => Keeps X w')) (by kernel_rfl) ?_ (fun hHeld => ?_)
  · exact k5.drew
  refine Plan.go [0, 1] ?_
  iterate 2 (refine takeL (by simp only [opsAt]; rfl) (by kernel_rfl) (by exact fun _ _ _ h => h) (by rfl) (by assumption) (fun w _ => by go_simp; try (with_reducible rfl)) ?_; try simp only [putAtH])
  refine Plan.nil ?_
  refine callH 2 (by kernel_rfl) (by simp only [opsAt]; rfl) (fun K hK => ?_)
  go_simp
  first
    | (go_at_call 25; refine (toSys_any (HS.out.keeps (K4.trans k5.drew)) Hz.out).mono ?_; rintro e w6 ⟨v6, vs6, rfl, O6, k6⟩; have S6 : Hid (SysOn w6 v6 s) := O6.on (by have := Hz.out; omega); clear O6)
    | (go_at_call 26; refine (eqSys_same (S4.out.lay.keeps (k5.drew.trans k6)) S6.out.lay).mono ?_; rintro e w7 ⟨rfl, k7⟩)
  try go_wp2_with fail
  refine hK.out _ _ ?_ (fun hHeld => ?_)
  · exact Keeps.trans (by assumption) (by assumption)
  clear hK K
  try simp only [putAtH]
  refine callH 3 (by kernel_rfl) (by simp only [opsAt]; rfl) (fun K hK => ?_)
  go_simp
  first
    | (go_at_call 25; refine (toSys_any (HS.out.keeps (K4.trans k5.drew)) Hz.out).mono ?_; rintro e w6 ⟨v6, vs6, rfl, O6, k6⟩; have S6 : Hid (SysOn w6 v6 s) := O6.on (by have := Hz.out; omega); clear O6)
    | (go_at_call 26; refine (eqSys_same (S4.out.lay.keeps (k5.drew.trans k6)) S6.out.lay).mono ?_; rintro e w7 ⟨rfl, k7⟩)
  try go_wp2_with fail
  refine hK.out _ _ ?_ (fun hHeld => ?_)
  · exact Keeps.trans (by assumption) (by assumption)
  clear hK K
  try simp only [putAtH]
  refine takeH 4 (v := ?_) (by simp only [opsAt]; rfl) (by kernel_rfl) (by exact fun _ _ _ h => h) (by rfl) (by assumption) ?_ ?_
  rotate_left
  · (intro w _; go_simp; try (with_reducible rfl))
  try simp only [putAtH]
  refine wpAnyH_done (by kernel_rfl) ?_ _
  have K7 : Keeps X w7 := by assumption
  go_wp2
  go_ret
  exact ⟨rfl, kW.trans (K4.trans K7)⟩
set_option maxRecDepth 100000 in
set_option maxHeartbeats 8000000 in
theorem exactJudgeAlone_walk (H : SaysJudgeAlone) {p : Bool} {w : World} (hg : GlobE w) {v : Sv} {s : Sy} (h : SysLay p w v s) :
    Calls Tryz.prog 8 #[.agg (syc s v)] w fun e w' => e = .returned (.bool true) ∧ Keeps w w' := by
  have HH : Hid SaysJudgeAlone := H
  clear H
  have kW : Keeps w (w.alloc (.cells (syc s v) 38)) := (Keeps.refl w).alloc _
  have r0 : ∀ w', Keeps (w.alloc (.cells (syc s v) 38)) w' → ∀ j, w'.cell? ⟨w.heap.size, j, none⟩ = (syc s v)[j]? := fun w' k => ((Blk.new w (syc s v) 38).keeps k).cells
  have HS : Hid (SysLay p (w.alloc (.cells (syc s v) 38)) v s) := h.keeps kW
  have HG : Hid (GlobE (w.alloc (.cells (syc s v) 38))) := hg.keeps kW
  clear h hg
  obtain ⟨g, Hg⟩ : ∃ g, Hid (judgeAloneB s = g) := ⟨_, rfl⟩
  have n0 : (g != g) = false := by simp
  go_enter Tryz.func8, Tryz.ntmps8
  go_wp2_with fail
  generalize w.alloc (.cells (syc s v) 38) = W at *
  refine (szSys_any HS.out).mono ?_
  rintro e w1 ⟨rfl, k1⟩
  by_cases hz : sizeS s ≤ 1048576
  rotate_left
  · have Hz : Hid (szSysL s 1048576 = -1) := if_neg (by omega)
    rw [Hz.out]
    go_wp2
    go_ret
    exact ⟨rfl, kW.trans k1⟩
  have Hz : Hid (sizeS s ≤ 1048576) := hz
  obtain ⟨q, Hq, hq0⟩ : ∃ q : Int, Hid (szSysL s 1048576 = q) ∧ 0 ≤ q := ⟨_, rfl, by unfold szSysL; rw [if_pos (by omega)]; omega⟩
  rw [Hq.out]
  have hq : decide (q < 0) = false := by simp; omega
  clear hz Hq
  go_wp2_with fail
  refine (toSys_any (HS.out.keeps k1) Hz.out).mono ?_
  rintro e w2 ⟨v2, vs2, rfl, O2, k2⟩
  have S2 : Hid (SysOn w2 v2 s) := O2.on (by have := Hz.out; omega)
  have K2 : Keeps W w2 := k1.trans k2
  clear O2 k1 k2
  go_wp2_with fail
  refine (specJudgeAlone_any S2.out).mono ?_
  rintro e w3 ⟨rfl, k3⟩
  rw [Hg.out]
  have K3 : Keeps W w3 := K2.trans k3
  clear S2 K2 k3
  go_wp2_with fail
  refine (toSys_any (HS.out.keeps K3) Hz.out).mono ?_
  rintro e w4 ⟨v4, vs4, rfl, O4, k4⟩
  have S4 : Hid (SysOn (w4.alloc (.cells (syc s v4) 30)) v4 s) := (O4.on (by have := Hz.out; omega)).keeps ((Keeps.refl _).alloc _)
  have K4 : Keeps W (w4.alloc (.cells (syc s v4) 30)) := (K3.trans k4).alloc _
  have rx : ∀ w', Keeps (w4.alloc (.cells (syc s v4) 30)) w' → ∀ j, w'.cell? ⟨w4.heap.size, j, none⟩ = (syc s v4)[j]? := fun w' k => ((Blk.new w4 (syc s v4) 30).keeps k).cells
  have r1 : ∀ w', Keeps (w4.alloc (.cells (syc s v4) 30)) w' → ∀ j, w'.cell? ⟨w.heap.size, j, none⟩ = (syc s v)[j]? := fun w' k => r0 w' (K4.trans k)
  clear O4 k4 K3
  go_wp2_with fail
  change Calls _ _ _ (w4.alloc (.cells (syc s v4) 30)) _
  generalize w4.alloc (.cells (syc s v4) 30) = X at *
  refine (HH.out X v4 s (HG.out.keeps K4) S4.out).mono ?_
  rintro e w5 ⟨rfl, k5⟩
  rw [Hg.out]
  clear r0
  go_wp2_with fail
  refine wp_region_held_drew (S := (fun w' => Keeps X w')) (by kernel_rfl) ?_ (fun hHeld => ?_)
  · exact k5.drew
  refine Plan.go [0, 1] ?_
  iterate 2 (refine takeL (by simp only [opsAt]; rfl) (by kernel_rfl) (by exact fun _ _ _ h => h) (by rfl) (by assumption) (fun w _ => by go_simp; try (with_reducible rfl)) ?_; try simp only [putAtH])
  refine Plan.nil ?_
  refine callH 2 (by kernel_rfl) (by simp only [opsAt]; rfl) (fun K hK => ?_)
  go_simp
  first
    | (go_at_call 25; refine (toSys_any (HS.out.keeps (K4.trans k5.drew)) Hz.out).mono ?_; rintro e w6 ⟨v6, vs6, rfl, O6, k6⟩; have S6 : Hid (SysOn w6 v6 s) := O6.on (by have := Hz.out; omega); clear O6)
    | (go_at_call 26; refine (eqSys_same (S4.out.lay.keeps (k5.drew.trans k6)) S6.out.lay).mono ?_; rintro e w7 ⟨rfl, k7⟩)
  try go_wp2_with fail
  refine hK.out _ _ ?_ (fun hHeld => ?_)
  · exact Keeps.trans (by assumption) (by assumption)
  clear hK K
  try simp only [putAtH]
  refine callH 3 (by kernel_rfl) (by simp only [opsAt]; rfl) (fun K hK => ?_)
  go_simp
  first
    | (go_at_call 25; refine (toSys_any (HS.out.keeps (K4.trans k5.drew)) Hz.out).mono ?_; rintro e w6 ⟨v6, vs6, rfl, O6, k6⟩; have S6 : Hid (SysOn w6 v6 s) := O6.on (by have := Hz.out; omega); clear O6)
    | (go_at_call 26; refine (eqSys_same (S4.out.lay.keeps (k5.drew.trans k6)) S6.out.lay).mono ?_; rintro e w7 ⟨rfl, k7⟩)
  try go_wp2_with fail
  refine hK.out _ _ ?_ (fun hHeld => ?_)
  · exact Keeps.trans (by assumption) (by assumption)
  clear hK K
  try simp only [putAtH]
  refine takeH 4 (v := ?_) (by simp only [opsAt]; rfl) (by kernel_rfl) (by exact fun _ _ _ h => h) (by rfl) (by assumption) ?_ ?_
  rotate_left
  · (intro w _; go_simp; try (with_reducible rfl))
  try simp only [putAtH]
  refine wpAnyH_done (by kernel_rfl) ?_ _
  have K7 : Keeps X w7 := by assumption
  go_wp2
  go_ret
  exact ⟨rfl, kW.trans (K4.trans K7)⟩
set_option maxRecDepth 100000 in
set_option maxHeartbeats 8000000 in
theorem exactJudgeAll_walk (H : SaysJudgeAll) {p : Bool} {w : World} (hg : GlobE w) {v : Sv} {s : Sy} (h : SysLay p w v s) :
    Calls Tryz.prog 9 #[.agg (syc s v)] w fun e w' => e = .returned (.bool true) ∧ Keeps w w' := by
  have HH : Hid SaysJudgeAll := H
  clear H
  have kW : Keeps w (w.alloc (.cells (syc s v) 38)) := (Keeps.refl w).alloc _
  have r0 : ∀ w', Keeps (w.alloc (.cells (syc s v) 38)) w' → ∀ j, w'.cell? ⟨w.heap.size, j, none⟩ = (syc s v)[j]? := fun w' k => ((Blk.new w (syc s v) 38).keeps k).cells
  have HS : Hid (SysLay p (w.alloc (.cells (syc s v) 38)) v s) := h.keeps kW
  have HG : Hid (GlobE (w.alloc (.cells (syc s v) 38))) := hg.keeps kW
  clear h hg
  obtain ⟨g, Hg⟩ : ∃ g, Hid (judgeAllB s = g) := ⟨_, rfl⟩
  have n0 : (g != g) = false := by simp
  go_enter Tryz.func9, Tryz.ntmps9
  go_wp2_with fail
  generalize w.alloc (.cells (syc s v) 38) = W at *
  refine (szSys_any HS.out).mono ?_
  rintro e w1 ⟨rfl, k1⟩
  by_cases hz : sizeS s ≤ 1048576
  rotate_left
  · have Hz : Hid (szSysL s 1048576 = -1) := if_neg (by omega)
    rw [Hz.out]
    go_wp2
    go_ret
    exact ⟨rfl, kW.trans k1⟩
  have Hz : Hid (sizeS s ≤ 1048576) := hz
  obtain ⟨q, Hq, hq0⟩ : ∃ q : Int, Hid (szSysL s 1048576 = q) ∧ 0 ≤ q := ⟨_, rfl, by unfold szSysL; rw [if_pos (by omega)]; omega⟩
  rw [Hq.out]
  have hq : decide (q < 0) = false := by simp; omega
  clear hz Hq
  go_wp2_with fail
  refine (toSys_any (HS.out.keeps k1) Hz.out).mono ?_
  rintro e w2 ⟨v2, vs2, rfl, O2, k2⟩
  have S2 : Hid (SysOn w2 v2 s) := O2.on (by have := Hz.out; omega)
  have K2 : Keeps W w2 := k1.trans k2
  clear O2 k1 k2
  go_wp2_with fail
  refine (specJudgeAll_any S2.out).mono ?_
  rintro e w3 ⟨rfl, k3⟩
  rw [Hg.out]
  have K3 : Keeps W w3 := K2.trans k3
  clear S2 K2 k3
  go_wp2_with fail
  refine (toSys_any (HS.out.keeps K3) Hz.out).mono ?_
  rintro e w4 ⟨v4, vs4, rfl, O4, k4⟩
  have S4 : Hid (SysOn (w4.alloc (.cells (syc s v4) 30)) v4 s) := (O4.on (by have := Hz.out; omega)).keeps ((Keeps.refl _).alloc _)
  have K4 : Keeps W (w4.alloc (.cells (syc s v4) 30)) := (K3.trans k4).alloc _
  have rx : ∀ w', Keeps (w4.alloc (.cells (syc s v4) 30)) w' → ∀ j, w'.cell? ⟨w4.heap.size, j, none⟩ = (syc s v4)[j]? := fun w' k => ((Blk.new w4 (syc s v4) 30).keeps k).cells
  have r1 : ∀ w', Keeps (w4.alloc (.cells (syc s v4) 30)) w' → ∀ j, w'.cell? ⟨w.heap.size, j, none⟩ = (syc s v)[j]? := fun w' k => r0 w' (K4.trans k)
  clear O4 k4 K3
  go_wp2_with fail
  change Calls _ _ _ (w4.alloc (.cells (syc s v4) 30)) _
  generalize w4.alloc (.cells (syc s v4) 30) = X at *
  refine (HH.out X v4 s (HG.out.keeps K4) S4.out).mono ?_
  rintro e w5 ⟨rfl, k5⟩
  rw [Hg.out]
  clear r0
  go_wp2_with fail
  refine wp_region_held_drew (S := (fun w' => Keeps X w')) (by kernel_rfl) ?_ (fun hHeld => ?_)
  · exact k5.drew
  refine Plan.go [0, 1] ?_
  iterate 2 (refine takeL (by simp only [opsAt]; rfl) (by kernel_rfl) (by exact fun _ _ _ h => h) (by rfl) (by assumption) (fun w _ => by go_simp; try (with_reducible rfl)) ?_; try simp only [putAtH])
  refine Plan.nil ?_
  refine callH 2 (by kernel_rfl) (by simp only [opsAt]; rfl) (fun K hK => ?_)
  go_simp
  first
    | (go_at_call 25; refine (toSys_any (HS.out.keeps (K4.trans k5.drew)) Hz.out).mono ?_; rintro e w6 ⟨v6, vs6, rfl, O6, k6⟩; have S6 : Hid (SysOn w6 v6 s) := O6.on (by have := Hz.out; omega); clear O6)
    | (go_at_call 26; refine (eqSys_same (S4.out.lay.keeps (k5.drew.trans k6)) S6.out.lay).mono ?_; rintro e w7 ⟨rfl, k7⟩)
  try go_wp2_with fail
  refine hK.out _ _ ?_ (fun hHeld => ?_)
  · exact Keeps.trans (by assumption) (by assumption)
  clear hK K
  try simp only [putAtH]
  refine callH 3 (by kernel_rfl) (by simp only [opsAt]; rfl) (fun K hK => ?_)
  go_simp
  first
    | (go_at_call 25; refine (toSys_any (HS.out.keeps (K4.trans k5.drew)) Hz.out).mono ?_; rintro e w6 ⟨v6, vs6, rfl, O6, k6⟩; have S6 : Hid (SysOn w6 v6 s) := O6.on (by have := Hz.out; omega); clear O6)
    | (go_at_call 26; refine (eqSys_same (S4.out.lay.keeps (k5.drew.trans k6)) S6.out.lay).mono ?_; rintro e w7 ⟨rfl, k7⟩)
  try go_wp2_with fail
  refine hK.out _ _ ?_ (fun hHeld => ?_)
  · exact Keeps.trans (by assumption) (by assumption)
  clear hK K
  try simp only [putAtH]
  refine takeH 4 (v := ?_) (by simp only [opsAt]; rfl) (by kernel_rfl) (by exact fun _ _ _ h => h) (by rfl) (by assumption) ?_ ?_
  rotate_left
  · (intro w _; go_simp; try (with_reducible rfl))
  try simp only [putAtH]
  refine wpAnyH_done (by kernel_rfl) ?_ _
  have K7 : Keeps X w7 := by assumption
  go_wp2
  go_ret
  exact ⟨rfl, kW.trans (K4.trans K7)⟩
end Go.Proofs.YthobpahnmmdbiaaGreatDoor
