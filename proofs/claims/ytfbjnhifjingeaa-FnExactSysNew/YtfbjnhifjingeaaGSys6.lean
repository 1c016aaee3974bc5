/-
  The walk of FnExactSharesOn, over a contract of the program's SharesOn.
  Ticks, as plain functions: what they leave as it was.
  A system of one's own in a variable, and what it was when the call began: each store, and what it leaves.
  Ticks: who is idle, and who is woken.
-/
import Derived.Test.YtfbjnhifjingeaaGSys4
import Derived.Test.YtfbjnhifjingeaaGPure2
import Derived.Test.YtfbjnhifjingeaaGPick1
import Derived.Test.YtfbjnhifjingeaaGDff1
import Derived.Test.YtfbjnhifjingeaaGBase2
import Derived.Deep.Cut
namespace Go.Proofs.Ytfbjnhifjingeaa
open Go.RowKit
attribute [local go_sem] Keeps.refl Keeps.alloc Keeps.drew Keeps.drewN

set_option maxRecDepth 100000 in
theorem specSharesOn_any {w : World} {v : Sv} {s : Sy} (h : SysOn w v s) (cpu : Int) :
    Calls Try.prog 14 #[.agg (syc s v), .int .i64 cpu] w fun e w' => ∃ u, e = .returned u ∧ OwnP w' w.heap.size u (sharesL s cpu) ∧ Keeps w w' := by
  have kW : Keeps w (w.alloc (.cells (syc s v) 28)) := (Keeps.refl w).alloc _
  have hb : ∀ w', Keeps (w.alloc (.cells (syc s v) 28)) w' → ∀ j, w'.cell? ⟨w.heap.size, j, none⟩ = (syc s v)[j]? := fun w' k => ((Blk.new w (syc s v) 28).keeps k).cells
  have HS : Hid (SysOn (w.alloc (.cells (syc s v) 28)) v s) := h.keeps kW
  clear h
  go_enter Try.func14, Try.ntmps14
  go_wp2_with fail
  generalize w.alloc (.cells (syc s v) 28) = W at *
  refine (l9Shares_any HS.out cpu).mono ?_
  rintro e w1 ⟨u, rfl, O, k1⟩
  have HO : Hid (OwnP w1 w.heap.size u (sharesL s cpu)) := O.base kW.size
  clear O
  go_wp2
  go_ret
  exact ⟨_, rfl, HO.out, kW.trans k1⟩

theorem sharesL_le (s : Sy) (cpu : Int) : (sharesL s cpu).length ≤ sizeS s := by
  have e : sharesL s cpu = (s.tasks.filter (dueOn cpu)).map partT ++ (s.ghosts.filter (ghOn cpu)).map partG := rfl
  rw [e]
  have h1 := List.length_filter_le (dueOn cpu) s.tasks
  have h2 := List.length_filter_le (ghOn cpu) s.ghosts
  unfold sizeS
  simp
  omega
def SaysSharesOn : Prop := ∀ (w : World) (v : Sv) (s : Sy) (cpu : Int), SysOn w v s → Calls Try.prog 16 #[.agg (syc s v), .int .i64 cpu] w fun e w' => ∃ u, e = .returned u ∧ OwnP w' w.heap.size u (sharesL s cpu) ∧ Keeps w w'

set_option maxRecDepth 100000 in
set_option maxHeartbeats 8000000 in
theorem exactSharesOn_walk (H : SaysSharesOn) {p : Bool} {w : World} {v : Sv} {s : Sy} (h : SysLay p w v s) (cpu : Int) :
    Calls Try.prog 4 #[.agg (syc s v), .int .i64 cpu] w fun e w' => e = .returned (.bool true) ∧ Keeps w w' := by
  have HH : Hid SaysSharesOn := H
  clear H
  have kW : Keeps w (w.alloc (.cells (syc s v) 39)) := (Keeps.refl w).alloc _
  have r0 : ∀ w', Keeps (w.alloc (.cells (syc s v) 39)) w' → ∀ j, w'.cell? ⟨w.heap.size, j, none⟩ = (syc s v)[j]? := fun w' k => ((Blk.new w (syc s v) 39).keeps k).cells
  have HS : Hid (SysLay p (w.alloc (.cells (syc s v) 39)) v s) := h.keeps kW
  clear h
  obtain ⟨N, HN⟩ : ∃ N, Hid (sharesL s cpu = N) := ⟨_, rfl⟩
  obtain ⟨n, Hn⟩ : ∃ n, Hid (N.length = n) := ⟨_, rfl⟩
  go_enter Try.func4, Try.ntmps4
  go_wp2_with fail
  generalize w.alloc (.cells (syc s v) 39) = W at *
  refine (szSys_any HS.out).mono ?_
  rintro e w1 ⟨rfl, k1⟩
  by_cases hz : sizeS s ≤ 1048576
  rotate_left
  · have Hz : Hid (szSysL s 1048576 = -1) := if_neg (by omega)
    rw [Hz.out]
    go_wp2
    go_ret
    exact ⟨rfl, kW.trans k1⟩
  have Hz : Hid (sizeS s ≤ 1048576) := hz
  obtain ⟨q, Hq, hq0⟩ : ∃ q : Int, Hid (szSysL s 1048576 = q) ∧ 0 ≤ q := ⟨_, rfl, by unfold szSysL; rw [if_pos (by omega)]; omega⟩
  rw [Hq.out]
  have hq : decide (q < 0) = false := by simp; omega
  have hn : n ≤ 1048576 := by have h1 := Hn.out; have h2 := Hz.out; rw [← HN.out] at h1; have h3 := sharesL_le s cpu; omega
  have Hm : Hid (n ≤ maxLen) := by show _ ≤ _; unfold maxLen; omega
  obtain ⟨E, HE, hE⟩ : ∃ E : Int, Hid (marksEnd 1 s = E) ∧ 1 ≤ E := ⟨_, rfl, marksEnd_pos s⟩
  have e1 : decide (E < 0) = false := by simp; omega
  obtain ⟨F, HF, hF⟩ : ∃ F : Int, Hid (1 + 2 * (n : Int) = F) ∧ 1 ≤ F := ⟨_, rfl, by omega⟩
  have f0 : (F != F) = false := by simp
  have f1 : decide (F < 0) = false := by simp; omega
  clear hz Hq
  go_wp2_with fail
  refine (toSys_any (HS.out.keeps k1) Hz.out).mono ?_
  rintro e w2 ⟨v2, vs2, rfl, O2, k2⟩
  have S2 : Hid (SysOn w2 v2 s) := O2.on (by have := Hz.out; omega)
  have K2 : Keeps W w2 := k1.trans k2
  clear O2 k1 k2
  go_wp2_with fail
  refine (specSharesOn_any S2.out cpu).mono ?_
  rintro e w3 ⟨u0, rfl, P0, k3⟩
  rw [HN.out] at P0
  obtain ⟨a0, cap0, rfl, L0, -, -⟩ := P0.slice pc_size
  rw [Hn.out]
  have L0H : Hid (Lies 2 pc w3 a0 N) := L0
  have K3 : Keeps W w3 := K2.trans k3
  clear S2 K2 k3 P0 L0
  go_wp2_with fail
  refine (toSys_any (HS.out.keeps K3) Hz.out).mono ?_
  rintro e w4 ⟨v4, vs4, rfl, O4, k4⟩
  have O4X : Hid (OwnS (w4.alloc (.cells (syc s v4) 28)) w3.heap.size v4 vs4 s) := O4.keeps ((Keeps.refl _).alloc _)
  have K4 : Keeps w3 (w4.alloc (.cells (syc s v4) 28)) := k4.alloc _
  have rx : ∀ w', Keeps (w4.alloc (.cells (syc s v4) 28)) w' → ∀ j, w'.cell? ⟨w4.heap.size, j, none⟩ = (syc s v4)[j]? := fun w' k => ((Blk.new w4 (syc s v4) 28).keeps k).cells
  have r1 : ∀ w', Keeps (w4.alloc (.cells (syc s v4) 28)) w' → ∀ j, w'.cell? ⟨w.heap.size, j, none⟩ = (syc s v)[j]? := fun w' k => r0 w' ((K3.trans K4).trans k)
  have R0 : Hid (∀ w', Keeps W w' → ∀ j, w'.cell? ⟨w.heap.size, j, none⟩ = (syc s v)[j]?) := r0
  clear O4 k4
  go_wp2_with fail
  change Calls _ _ _ (w4.alloc (.cells (syc s v4) 28)) _
  generalize w4.alloc (.cells (syc s v4) 28) = X at *
  generalize w4.heap.size = b4 at *
  have S4 : Hid (SysOn X v4 s) := O4X.out.on (by have := Hz.out; omega)
  refine (HH.out X v4 s cpu S4.out).mono ?_
  rintro e w5 ⟨u1, rfl, P1, k5⟩
  rw [HN.out] at P1
  obtain ⟨a1, cap1, e1', L1, -, -⟩ := P1.slice pc_size
  subst e1'
  rw [Hn.out] at P1 ⊢
  have P1H : Hid (OwnP w5 X.heap.size (.slice a1 n cap1) N) := P1
  clear P1 r0
  go_wp2_with fail
  refine (eqShareS_pc a1 a0 cap1 cap0 n N w5 Hm.out Hn L1 (L0H.out.keeps (K4.trans k5))).mono ?_
  rintro e w6 ⟨rfl, k6⟩
  have K6 : Keeps X w6 := k5.trans k6
  have P6 : Hid (OwnP w6 X.heap.size (.slice a1 n cap1) N) := P1H.out.keeps k6
  clear k5 k6 L1 P1H
  go_wp2_with fail
  refine wp_region_held_drew (S := (fun w' => Keeps X w')) (by kernel_rfl) ?_ (fun hHeld => ?_)
  · exact K6.drew
  refine takeH 0 (v := ?_) (by simp only [opsAt]; rfl) (by kernel_rfl) (by exact fun _ _ _ h => h) (by rfl) (by assumption) ?_ ?_
  rotate_left
  · (intro w _; go_simp; try (with_reducible rfl))
  try simp only [putAtH]
  refine takeH 1 (v := ?_) (by simp only [opsAt]; rfl) (by kernel_rfl) (by exact fun _ _ _ h => h) (by rfl) (by assumption) ?_ ?_
  rotate_left
  · (intro w _; go_simp; try (with_reducible rfl))
  try simp only [putAtH]
  refine callH 2 (by kernel_rfl) (by simp only [opsAt]; rfl) (fun K hK => ?_)
  go_simp
  first
    | (go_at_call 15; refine (toSys_any (HS.out.keeps (K3.trans (K4.trans K6.drew))) Hz.out).mono ?_; rintro e w7 ⟨v7, vs7, rfl, O7, k7⟩; have S7 : Hid (SysOn w7 v7 s) := O7.on (by have := Hz.out; omega); clear O7)
    | (go_at_call 10; refine (eqSys_same (S4.out.lay.keeps (K6.drew.trans k7)) S7.out.lay).mono ?_; rintro e w8 ⟨rfl, k8⟩)
  try go_wp2_with fail
  refine hK.out _ _ ?_ (fun hHeld => ?_)
  · exact Keeps.trans (by assumption) (by assumption)
  clear hK K
  try simp only [putAtH]
  refine callH 3 (by kernel_rfl) (by simp only [opsAt]; rfl) (fun K hK => ?_)
  go_simp
  first
    | (go_at_call 15; refine (toSys_any (HS.out.keeps (K3.trans (K4.trans K6.drew))) Hz.out).mono ?_; rintro e w7 ⟨v7, vs7, rfl, O7, k7⟩; have S7 : Hid (SysOn w7 v7 s) := O7.on (by have := Hz.out; omega); clear O7)
    | (go_at_call 10; refine (eqSys_same (S4.out.lay.keeps (K6.drew.trans k7)) S7.out.lay).mono ?_; rintro e w8 ⟨rfl, k8⟩)
  try go_wp2_with fail
  refine hK.out _ _ ?_ (fun hHeld => ?_)
  · exact Keeps.trans (by assumption) (by assumption)
  clear hK K
  try simp only [putAtH]
  refine takeH 4 (v := ?_) (by simp only [opsAt]; rfl) (by kernel_rfl) (by exact fun _ _ _ h => h) (by rfl) (by assumption) ?_ ?_
  rotate_left
  · (intro w _; go_simp; try (with_reducible rfl))
  try simp only [putAtH]
  refine wpAnyH_done (by kernel_rfl) ?_ _
  have X8 : Keeps X w8 := by assumption
  have K8 : Keeps w6 w8 := ((Keeps.refl w6).drew.trans k7).trans k8
  have P8 : Hid (OwnP w8 X.heap.size (.slice a1 n cap1) N) := P6.out.keeps K8
  have O8 : Hid (OwnS w8 w3.heap.size v4 vs4 s) := O4X.out.keeps X8
  go_wp2_with fail
  refine (markSys_any O8.out Hz.out).mono ?_
  rintro e M ⟨rfl, -, TM⟩
  have KM : Keeps w3 M := TM.past O8.out (K4.trans X8)
  have PM : Hid (OwnP M X.heap.size (.slice a1 n cap1) N) := P8.out.same fun b e => TM.block b (P8.out.ltb b e).2 (fun ⟨i, hi⟩ => by have := (O4X.out.blkLt hi).2; have := (P8.out.ltb b e).1; omega)
  have WX : Hid (w3.heap.size ≤ X.heap.size) := K4.size
  have rm : ∀ w', Keeps M w' → ∀ j, w'.cell? ⟨w.heap.size, j, none⟩ = (syc s v)[j]? := fun w' k => R0.out w' ((K3.trans KM).trans k)
  rw [HE.out]
  clear TM O8 P8 X8 K8 P6 K6 rx r1 S4 O4X S7 k7 k8
  have LM : Lies 2 pc M a1 N := by
    obtain ⟨a, c, e, l, -, -⟩ := PM.out.slice pc_size
    simp only [Value.slice.injEq] at e
    obtain ⟨rfl, -, -⟩ := e
    exact l
  go_wp2_with fail
  refine (eqShareS_pc a1 a0 cap1 cap0 n N M Hm.out Hn LM (L0H.out.keeps KM)).mono ?_
  rintro e w9 ⟨rfl, k9⟩
  have P9 : Hid (OwnP w9 X.heap.size (.slice a1 n cap1) N) := PM.out.keeps k9
  go_wp2_with fail
  have M0 := markShareS_own 1 (by omega) (by omega) (.slice a1 n cap1) N X.heap.size w9 (by have := Hn.out; omega) P9.out
  rw [Hn.out, HF.out] at M0
  refine M0.mono ?_
  rintro e V ⟨rfl, PV, gV⟩
  clear M0
  have KV : Keeps w3 V := (TurnsB.grown gV).keeps (KM.trans k9) fun q hq => by have := (P9.out.ltb q hq).1; have := WX.out; omega
  have rv : ∀ w', Keeps V w' → ∀ j, w'.cell? ⟨w.heap.size, j, none⟩ = (syc s v)[j]? := fun w' k => R0.out w' ((K3.trans KV).trans k)
  have LV : Hid (Lies 2 pc V a1 (marksP 1 n)) := by
    obtain ⟨a, c, e, l, -, -⟩ := PV.slice pc_size
    simp only [Value.slice.injEq] at e
    obtain ⟨rfl, -, -⟩ := e
    exact l
  clear PV gV rm KM k9 P9 PM LM
  go_wp2_with fail
  have Q0 := heldShareS_k 1 (by omega) (by omega) a1 n cap1 V hn LV.out
  rw [HF.out] at Q0
  refine Q0.mono ?_
  rintro e w10 ⟨rfl, k10⟩
  clear Q0
  go_wp2_with fail
  refine (toSys_any (HS.out.keeps (K3.trans (KV.trans k10))) Hz.out).mono ?_
  rintro e w11 ⟨v11, vs11, rfl, O11, k11⟩
  have S11 : Hid (SysOn w11 v11 s) := O11.on (by have := Hz.out; omega)
  have K11 : Keeps V w11 := k10.trans k11
  clear O11 k10 k11
  go_wp2_with fail
  refine (HH.out w11 v11 s cpu S11.out).mono ?_
  rintro e w12 ⟨u2, rfl, P2, k12⟩
  rw [HN.out] at P2
  obtain ⟨a2, cap2, e2', L2, -, -⟩ := P2.slice pc_size
  subst e2'
  rw [Hn.out]
  have K12 : Keeps V w12 := K11.trans k12
  clear P2 S11 k12 K11
  go_wp2_with fail
  refine (eqShareS_pc a2 a0 cap2 cap0 n N w12 Hm.out Hn L2 (L0H.out.keeps (KV.trans K12))).mono ?_
  rintro e w13 ⟨rfl, k13⟩
  have K13 : Keeps V w13 := K12.trans k13
  clear k13 K12 L2
  go_wp2_with fail
  have Q0 := heldShareS_k 1 (by omega) (by omega) a1 n cap1 w13 hn (LV.out.keeps K13)
  rw [HF.out] at Q0
  refine Q0.mono ?_
  rintro e w14 ⟨rfl, k14⟩
  clear Q0
  go_wp2
  go_ret
  exact ⟨rfl, kW.trans (K3.trans (KV.trans (K13.trans k14)))⟩
end Go.Proofs.Ytfbjnhifjingeaa
namespace Go.Proofs.Ytfbjnhifjingeaa
open Go.RowKit

theorem turnS_facts (s : Sy) (cpu : Int) : (turnS s cpu).cpus = s.cpus ∧ (turnS s cpu).now = s.now ∧ sizeS (turnS s cpu) = sizeS s + 1 ∧ s.seq ≤ (turnS s cpu).seq ∧ (turnS s cpu).seq ≤ s.seq + 1 := by
  unfold turnS
  split
  · refine ⟨rfl, rfl, ?_, Int.le_refl _, by show s.seq ≤ s.seq + 1; omega⟩
    simp only [sizeS, List.length_append, List.length_singleton]
    omega
  · unfold turnTo
    refine ⟨rfl, rfl, ?_, ?_, ?_⟩
    · simp only [sizeS, List.length_append, List.length_singleton, List.length_set]
      omega
    · dsimp only; split <;> omega
    · dsimp only; split <;> omega
theorem turnsS_facts (s : Sy) : ∀ k : Nat, (turnsS s k).cpus = s.cpus ∧ (turnsS s k).now = s.now ∧ sizeS (turnsS s k) = sizeS s + k ∧ s.seq ≤ (turnsS s k).seq ∧ (turnsS s k).seq ≤ s.seq + k
  | 0 => ⟨rfl, rfl, rfl, Int.le_refl _, by simp [turnsS]⟩
  | k + 1 => by
    obtain ⟨h1, h2, h3, h4, h5⟩ := turnsS_facts s k
    obtain ⟨g1, g2, g3, g4, g5⟩ := turnS_facts (turnsS s k) k
    have e : turnsS s (k + 1) = turnS (turnsS s k) k := rfl
    rw [e]
    exact ⟨g1.trans h1, g2.trans h2, by omega, by omega, by omega⟩
theorem aged_size (s : Sy) : sizeS (agedS s) ≤ sizeS s := by
  have := List.length_filter_le (fun g => decide (s.now < g.til)) s.ghosts
  simp only [agedS, sizeS, List.length_map]
  omega
theorem renewOne_cpu (now : Int) (t : Tsk) : (renewOne now t).cpu = t.cpu := by
  unfold renewOne renewT
  split
  · split <;> rfl
  · rfl
theorem aged_on {s : Sy} (h : OnCpus s) : OnCpus (agedS s) := by
  intro t ht
  simp only [agedS, List.mem_map] at ht
  obtain ⟨u, hu, rfl⟩ := ht
  rw [renewOne_cpu]
  exact h u hu
theorem wake_size (s : Sy) : sizeS (wakeS s) = sizeS s := by simp [wakeS, sizeS]
theorem floored_size (s : Sy) : sizeS (flooredS s) = sizeS s := by simp [flooredS, sizeS]
end Go.Proofs.Ytfbjnhifjingeaa
namespace Go.Proofs.Ytfbjnhifjingeaa
open Go.RowKit

/-- One step more: what turned was of the system, or is newer than the call. -/
theorem Goes.step {w0 w w' : World} {lo : Nat} {v0 v v' : Sv} {vs0 vs vs' : List Lv} {s s' : Sy} (h : Goes w0 lo v0 vs0 w v vs s) (own : OwnS w' lo v' vs' s') (t : TurnsB (fun b => (∃ i, ofKind v vs i b) ∨ w0.heap.size ≤ b) w w') (old : ∀ i b, ofKind v' vs' i b → (∃ j, ofKind v vs j b) ∨ w0.heap.size ≤ b) : Goes w0 lo v0 vs0 w' v' vs' s' := by
  refine ⟨own, ⟨t.os.trans h.turn.os, t.tape.trans h.turn.tape, t.output.trans h.turn.output, Nat.le_trans h.turn.size t.size, fun b hb hn => ?_⟩, fun i b hb => ?_⟩
  · refine (t.block b (Nat.lt_of_lt_of_le hb h.turn.size) ?_).trans (h.turn.block b hb hn)
    rintro (⟨i, hi⟩ | h1)
    · rcases h.old i b hi with h1 | h1
      · exact hn h1
      · omega
    · omega
  · rcases old i b hb with ⟨j, hj⟩ | h1
    · exact h.old j b hj
    · exact .inr h1
theorem TurnsB.putC {P : Nat → Prop} {c : Nat} (hc : P c) (L : List Value) {a w : World} (k : Nat) (h : TurnsB P a w) : TurnsB P a (Go.Proofs.Ytfbjnhifjingeaa.putC w c k L) :=
  h.trans ((TurnsB.grown (grown_putC L w k (World.grownBy.refl w (some c)))).mono fun q e => by cases e; exact hc)
theorem TurnsB.of {P : Nat → Prop} {a b : World} (k : Keeps a b) : TurnsB P a b := ⟨k.os, k.tape, k.output, k.size, fun q hq _ => Below.block k q hq⟩
/-- The variable in block ob, the system of one's own, and what has become of the one that the call began with. -/
structure VarG (w0 : World) (lo : Nat) (v0 : Sv) (vs0 : List Lv) (w : World) (ob : Nat) (v : Sv) (vs : List Lv) (s : Sy) : Prop where
  var : VarS w lo ob v vs s
  goes : Goes w0 lo v0 vs0 w v vs s
  new : w0.heap.size ≤ ob
section
variable {w0 w : World} {lo ob : Nat} {v0 v : Sv} {vs0 vs : List Lv} {s : Sy}
theorem VarG.start {w : World} {lo : Nat} {v : Sv} {vs : List Lv} {s : Sy} (h : OwnS w lo v vs s) (hl : lo ≤ w.heap.size) : VarG w lo v vs (w.alloc (.cells (syc s v) 28)) w.heap.size v vs s :=
  ⟨VarS.new h hl, (Goes.refl h).behind ((Keeps.refl _).alloc _), Nat.le_refl _⟩
theorem VarG.keeps {w' : World} (h : VarG w0 lo v0 vs0 w ob v vs s) (k : Keeps w w') : VarG w0 lo v0 vs0 w' ob v vs s := ⟨h.var.keeps k, h.goes.behind k, h.new⟩
/-- A store into a block that is newer than the call, and none of the system. -/
theorem VarG.elsewhere (h : VarG w0 lo v0 vs0 w ob v vs s) {c : Nat} (hc : ∀ i, ¬ ofKind v vs i c) (hne : c ≠ ob) (hn : w0.heap.size ≤ c) (L : List Value) (k : Nat) : VarG w0 lo v0 vs0 (putC w c k L) ob v vs s :=
  ⟨h.var.elsewhere hc hne L k, h.goes.step (OwnS.farC hc L k h.var.own) (TurnsB.putC (.inr hn) L k (TurnsB.refl _ _)) fun i _ hb => .inl ⟨i, hb⟩, h.new⟩
/-- A task is stored over. -/
theorem VarG.task (h : VarG w0 lo v0 vs0 w ob v vs s) {rb : Nat} (ha : v.t.a = some ⟨rb, 0, none⟩) {k : Nat} (hk : k < s.tasks.length) (x : Tsk) : VarG w0 lo v0 vs0 (putC w rb (k * 14) (tc x).toList) ob v vs { s with tasks := s.tasks.set k x } := by
  have ho : ofKind v vs 0 rb := by show v.t.val.ownBlock = some rb; rw [Rw.val, ha]; rfl
  exact ⟨h.var.task ha hk x, h.goes.step (h.var.task ha hk x).own (TurnsB.putC (.inl ⟨0, ho⟩) _ _ (TurnsB.refl _ _)) fun i _ hb => .inl ⟨i, hb⟩, h.new⟩
/-- A number of it is stored. -/
theorem VarG.num (h : VarG w0 lo v0 vs0 w ob v vs s) (now cpus seq missed : Int) {k : Nat} {x : Value} (e : (syc s v).setIfInBounds k x = syc { s with now := now, cpus := cpus, seq := seq, missed := missed } v) (hk : k < 9) : VarG w0 lo v0 vs0 (w.setCell ⟨ob, k, none⟩ x) ob v vs { s with now := now, cpus := cpus, seq := seq, missed := missed } := by
  have B := h.var.box.set k (by simpa using hk) x
  rw [e] at B
  have O : OwnS (w.setCell ⟨ob, k, none⟩ x) lo v vs { s with now := now, cpus := cpus, seq := seq, missed := missed } := (h.var.own.far h.var.far x).nums now cpus seq missed
  exact ⟨⟨B, O, h.var.lob, h.var.far⟩, h.goes.step O (TurnsB.putC (.inr h.new) [x] k (TurnsB.refl _ _)) fun i _ hb => .inl ⟨i, hb⟩, h.new⟩
/-- The trace has grown, and is stored. -/
theorem VarG.trace {w1 w2 : World} (h : VarG w0 lo v0 vs0 w ob v vs s) (k : Keeps w w1) {x : Rw} {xs : List Tn} (O : Own 91 3 tnc w2 lo x.val xs) (g : w1.grownBy w2 v.r.val.ownBlock) (f : ∀ q, x.val.ownBlock = some q → v.r.val.ownBlock = some q ∨ w1.heap.size ≤ q) :
    VarG w0 lo v0 vs0 (w2.setCell ⟨ob, 8, none⟩ x.val) ob { v with r := x } vs { s with trace := xs } := by
  have h1 := h.keeps k
  have hr : ∀ q, v.r.val.ownBlock = some q → ofKind v vs 4 q := fun q e => e
  have S2 : OwnS w2 lo { v with r := x } vs { s with trace := xs } := h1.var.own.setR g.size (fun b hb hn => g.block b hb (fun e => hn e.symm)) x xs O f
  have lt1 := h1.var.box.lt
  have far2 : ∀ i, ¬ ofKind { v with r := x } vs i ob := by
    intro i hi
    match i, hi with
    | 0, hi => exact h.var.far 0 hi
    | 1, hi => exact h.var.far 1 hi
    | 2, hi => exact h.var.far 2 hi
    | 3, hi => exact h.var.far 3 hi
    | 4, hi =>
      rcases f ob hi with h2 | h2
      · exact h.var.far 4 h2
      · omega
  have B2 : Blk w2 ob (syc s v) := h1.var.box.grown g (fun q e e2 => h.var.far 4 (by rw [← e2]; exact hr q e))
  have O3 : OwnS (w2.setCell ⟨ob, 8, none⟩ x.val) lo { v with r := x } vs { s with trace := xs } := S2.far far2 _
  refine ⟨⟨B2.set 8 (by simp) x.val, O3, h.var.lob, far2⟩, h1.goes.step O3 (TurnsB.putC (.inr h.new) [x.val] 8 ((TurnsB.grown g).mono fun q e => .inl ⟨4, e⟩)) fun i b hb => ?_, h.new⟩
  match i, hb with
  | 0, hb => exact .inl ⟨0, hb⟩
  | 1, hb => exact .inl ⟨1, hb⟩
  | 2, hb => exact .inl ⟨2, hb⟩
  | 3, hb => exact .inl ⟨3, hb⟩
  | 4, hb =>
    rcases f b hb with h2 | h2
    · exact .inl ⟨4, h2⟩
    · exact .inr (Nat.le_trans (Nat.le_trans h.goes.turn.size k.size) h2)
/-- The ghosts are others now, and stored. -/
theorem VarG.ghosts {w1 w2 : World} (h : VarG w0 lo v0 vs0 w ob v vs s) (k : Keeps w w1) {x : Rw} {xs : List Gh} (O : Own 83 4 ghc w2 lo x.val xs) (g : w1.grownBy w2 v.g.val.ownBlock) (f : ∀ q, x.val.ownBlock = some q → v.g.val.ownBlock = some q ∨ w1.heap.size ≤ q) :
    VarG w0 lo v0 vs0 (w2.setCell ⟨ob, 4, none⟩ x.val) ob { v with g := x } vs { s with ghosts := xs } := by
  have h1 := h.keeps k
  have hr : ∀ q, v.g.val.ownBlock = some q → ofKind v vs 2 q := fun q e => e
  have S2 : OwnS w2 lo { v with g := x } vs { s with ghosts := xs } := h1.var.own.setG g.size (fun b hb hn => g.block b hb (fun e => hn e.symm)) x xs O f
  have lt1 := h1.var.box.lt
  have far2 : ∀ i, ¬ ofKind { v with g := x } vs i ob := by
    intro i hi
    match i, hi with
    | 0, hi => exact h.var.far 0 hi
    | 1, hi => exact h.var.far 1 hi
    | 2, hi =>
      rcases f ob hi with h2 | h2
      · exact h.var.far 2 h2
      · omega
    | 3, hi => exact h.var.far 3 hi
    | 4, hi => exact h.var.far 4 hi
  have B2 : Blk w2 ob (syc s v) := h1.var.box.grown g (fun q e e2 => h.var.far 2 (by rw [← e2]; exact hr q e))
  have O3 : OwnS (w2.setCell ⟨ob, 4, none⟩ x.val) lo { v with g := x } vs { s with ghosts := xs } := S2.far far2 _
  refine ⟨⟨B2.set 4 (by simp) x.val, O3, h.var.lob, far2⟩, h1.goes.step O3 (TurnsB.putC (.inr h.new) [x.val] 4 ((TurnsB.grown g).mono fun q e => .inl ⟨2, e⟩)) fun i b hb => ?_, h.new⟩
  match i, hb with
  | 0, hb => exact .inl ⟨0, hb⟩
  | 1, hb => exact .inl ⟨1, hb⟩
  | 2, hb =>
    rcases f b hb with h2 | h2
    · exact .inl ⟨2, h2⟩
    · exact .inr (Nat.le_trans (Nat.le_trans h.goes.turn.size k.size) h2)
  | 3, hb => exact .inl ⟨3, hb⟩
  | 4, hb => exact .inl ⟨4, hb⟩
/-- The tasks are others now, and stored. -/
theorem VarG.tasks {w1 w2 : World} (h : VarG w0 lo v0 vs0 w ob v vs s) (k : Keeps w w1) {x : Rw} {xs : List Tsk} (O : Own 72 14 tc w2 lo x.val xs) (g : w1.grownBy w2 v.t.val.ownBlock) (f : ∀ q, x.val.ownBlock = some q → v.t.val.ownBlock = some q ∨ w1.heap.size ≤ q) :
    VarG w0 lo v0 vs0 (w2.setCell ⟨ob, 2, none⟩ x.val) ob { v with t := x } vs { s with tasks := xs } := by
  have h1 := h.keeps k
  have hr : ∀ q, v.t.val.ownBlock = some q → ofKind v vs 0 q := fun q e => e
  have S2 : OwnS w2 lo { v with t := x } vs { s with tasks := xs } := h1.var.own.setT g.size (fun b hb hn => g.block b hb (fun e => hn e.symm)) x xs O f
  have lt1 := h1.var.box.lt
  have far2 : ∀ i, ¬ ofKind { v with t := x } vs i ob := by
    intro i hi
    match i, hi with
    | 0, hi =>
      rcases f ob hi with h2 | h2
      · exact h.var.far 0 h2
      · omega
    | 1, hi => exact h.var.far 1 hi
    | 2, hi => exact h.var.far 2 hi
    | 3, hi => exact h.var.far 3 hi
    | 4, hi => exact h.var.far 4 hi
  have B2 : Blk w2 ob (syc s v) := h1.var.box.grown g (fun q e e2 => h.var.far 0 (by rw [← e2]; exact hr q e))
  have O3 : OwnS (w2.setCell ⟨ob, 2, none⟩ x.val) lo { v with t := x } vs { s with tasks := xs } := S2.far far2 _
  refine ⟨⟨B2.set 2 (by simp) x.val, O3, h.var.lob, far2⟩, h1.goes.step O3 (TurnsB.putC (.inr h.new) [x.val] 2 ((TurnsB.grown g).mono fun q e => .inl ⟨0, e⟩)) fun i b hb => ?_, h.new⟩
  match i, hb with
  | 0, hb =>
    rcases f b hb with h2 | h2
    · exact .inl ⟨0, h2⟩
    · exact .inr (Nat.le_trans (Nat.le_trans h.goes.turn.size k.size) h2)
  | 1, hb => exact .inl ⟨1, hb⟩
  | 2, hb => exact .inl ⟨2, hb⟩
  | 3, hb => exact .inl ⟨3, hb⟩
  | 4, hb => exact .inl ⟨4, hb⟩
/-- A floor is stored over. -/
theorem VarG.floor (h : VarG w0 lo v0 vs0 w ob v vs s) {fb : Nat} (ha : v.f.a = some ⟨fb, 0, none⟩) {k : Nat} {y : Int} (hk : s.floors[k]? = some y) (x : Int) : VarG w0 lo v0 vs0 (w.setCell ⟨fb, k, none⟩ (.int .i64 x)) ob v vs { s with floors := s.floors.set k x } := by
  have ho : ofKind v vs 3 fb := by show v.f.val.ownBlock = some fb; rw [Rw.val, ha]; rfl
  have hne : fb ≠ ob := fun e => h.var.far 3 (by rw [← e]; exact ho)
  have hn := (h.var.own.f.row ic_size).1
  have hv : v.f.val = .slice (some ⟨fb, 0, none⟩) s.floors.length v.f.cap := by rw [Rw.val, ha, hn]
  have O := h.var.own.f
  rw [hv] at O
  have O2 : OwnN (w.setCell ⟨fb, k, none⟩ (.int .i64 x)) lo v.f.val (s.floors.set k x) := by
    rw [hv]
    have := O.setAt ic_size (i := k) (j := 0) (x := y) (y := x) (u := .int .i64 x) hk (by omega) rfl
    simpa using this
  have G : w.grownBy (w.setCell ⟨fb, k, none⟩ (.int .i64 x)) (some fb) := grown_putC [.int .i64 x] w k (World.grownBy.refl w (some fb))
  have OS : OwnS (w.setCell ⟨fb, k, none⟩ (.int .i64 x)) lo v vs { s with floors := s.floors.set k x } := h.var.own.setF G.size (fun b hb hnn => G.block b hb (fun e => hnn (by cases e; exact ho))) v.f _ O2 (fun b e => .inl e)
  exact ⟨⟨h.var.box.far hne _, OS, h.var.lob, h.var.far⟩, h.goes.step OS ((TurnsB.grown G).mono fun q e => by cases e; exact .inl ⟨3, ho⟩) fun i _ hb => .inl ⟨i, hb⟩, h.new⟩
/-- It is handed on, and what comes back is stored over it. -/
theorem VarG.put {w' : World} {v' : Sv} {vs' : List Lv} {s' : Sy} (h : VarG w0 lo v0 vs0 w ob v vs s) (g : Goes w lo v vs w' v' vs' s') : VarG w0 lo v0 vs0 (putC w' ob 0 (syc s' v').toList) ob v' vs' s' := by
  have V := h.var.put g
  refine ⟨V, (h.goes.trans g).step V.own (TurnsB.putC (.inr h.new) _ 0 (TurnsB.refl _ _)) fun i _ hb => .inl ⟨i, hb⟩, h.new⟩
theorem VarG.keepsZ {z : World} {s0 : Sy} (h : VarG w0 lo v0 vs0 w ob v vs s) (h0 : OwnS w0 lo v0 vs0 s0) (k : Keeps z w0) (hl : z.heap.size ≤ lo) : Keeps z w := h.goes.keeps h0 k hl
theorem OwnS.floorsAt {w : World} {lo : Nat} {v : Sv} {vs : List Lv} {s : Sy} (h : OwnS w lo v vs s) {k : Nat} (hk : k < s.floors.length) : ∃ fb, v.f.a = some ⟨fb, 0, none⟩ := by
  obtain ⟨b, cap, e⟩ := h.f.blk (by omega)
  simp only [Rw.val, Value.slice.injEq] at e
  exact ⟨b, e.1⟩
theorem OwnS.floorCell {w : World} {lo : Nat} {v : Sv} {vs : List Lv} {s : Sy} (h : OwnS w lo v vs s) {fb : Nat} (ha : v.f.a = some ⟨fb, 0, none⟩) {k : Nat} {x : Int} (hx : s.floors[k]? = some x) : w.cell? ⟨fb, k, none⟩ = some (.int .i64 x) ∧ (∀ j, w.frozen? ⟨fb, j, none⟩ = false) ∧ fb < w.heap.size ∧ lo ≤ fb := by
  have hn := (h.f.row ic_size).1
  have hv : v.f.val = .slice (some ⟨fb, 0, none⟩) s.floors.length v.f.cap := by rw [Rw.val, ha, hn]
  have O := h.f
  rw [hv] at O
  have h1 := O.cellAt ic_size (i := k) (k := 0) hx (by omega)
  have h2 := O.ltb fb rfl
  exact ⟨by simpa using h1, fun j => O.frozenAt j, h2.2, h2.1⟩
end
end Go.Proofs.Ytfbjnhifjingeaa
namespace Go.Proofs.Ytfbjnhifjingeaa
open Go.RowKit
attribute [local go_sem] Keeps.refl Keeps.alloc Keeps.drew Keeps.drewN

/-- The idle mark of a task is written. -/
theorem Blk.idle {w : World} {b : Nat} {t : Tsk} (h : Blk w b (tc t)) (c : Bool) : Blk (w.setCell ⟨b, 4, none⟩ (.bool c)) b (tc { t with idle := c }) := h.set 4 (by simp) _
theorem tc_list (t : Tsk) : (tc t).toList = [.int .i64 t.no, .int .i64 t.cls, .int .i64 t.cpu, .int .i64 t.st, .bool t.idle, .int .i64 t.q, .int .i64 t.p, .int .i64 t.left, .int .i64 t.due, .int .i64 t.prio, .int .i64 t.round, .int .i64 t.seq, .int .i64 t.nice, .int .i64 t.v] := rfl
end Go.Proofs.Ytfbjnhifjingeaa
