/-
  A system of one's own, in a variable: calls that turn it, stores into it.
  What a right system is, limb by limb; it is small.
  The system: a new one.
  The walk of FnExactSysNew, over a contract of the program's SysNew.
  Rows of parts of time, held against each other, marked, and looked at again.
  Ticks: the last turns.
-/
import Derived.Test.YthpdlbcdbncnhaaGreatDoorGSys3
import Derived.Test.YthpdlbcdbncnhaaGreatDoorGSys2
import Derived.Test.YthpdlbcdbncnhaaGreatDoorGLock2
import Derived.Test.YthpdlbcdbncnhaaGreatDoorGTask3
import Derived.RegionTactic
import Derived.BigRegion
import Derived.Deep.RegionHeld3
import Derived.Test.YthpdlbcdbncnhaaGreatDoorGPure2
import Derived.Test.YthpdlbcdbncnhaaGreatDoorGDff1
namespace Go.Proofs.YthpdlbcdbncnhaaGreatDoor
open Go.RowKit

/-- The cells of a system of which nothing is there. -/
abbrev zc : Array Value := #[.int .i64 0, .int .i64 0, .slice none 0 0, .slice none 0 0, .slice none 0 0, .slice none 0 0, .int .i64 0, .int .i64 0, .slice none 0 0]
/-- A system of one's own has become another one: nothing else has turned, and its rows lie where they lay or in new blocks. -/
structure Goes (w : World) (lo : Nat) (v : Sv) (vs : List Lv) (w' : World) (v' : Sv) (vs' : List Lv) (s' : Sy) : Prop where
  own : OwnS w' lo v' vs' s'
  turn : TurnsB (fun b => ∃ i, ofKind v vs i b) w w'
  old : ∀ i b, ofKind v' vs' i b → (∃ j, ofKind v vs j b) ∨ w.heap.size ≤ b
theorem Goes.refl {w : World} {lo : Nat} {v : Sv} {vs : List Lv} {s : Sy} (h : OwnS w lo v vs s) : Goes w lo v vs w v vs s := ⟨h, TurnsB.refl _ _, fun i _ hb => .inl ⟨i, hb⟩⟩
theorem Goes.trans {w w' w'' : World} {lo : Nat} {v v' v'' : Sv} {vs vs' vs'' : List Lv} {s' s'' : Sy} (h : Goes w lo v vs w' v' vs' s') (k : Goes w' lo v' vs' w'' v'' vs'' s'') : Goes w lo v vs w'' v'' vs'' s'' := by
  refine ⟨k.own, ⟨k.turn.os.trans h.turn.os, k.turn.tape.trans h.turn.tape, k.turn.output.trans h.turn.output, Nat.le_trans h.turn.size k.turn.size, fun b hb hn => ?_⟩, fun i b hb => ?_⟩
  · refine (k.turn.block b (Nat.lt_of_lt_of_le hb h.turn.size) ?_).trans (h.turn.block b hb hn)
    rintro ⟨i, hi⟩
    rcases h.old i b hi with h1 | h1
    · exact hn h1
    · omega
  · rcases k.old i b hb with ⟨j, hj⟩ | h1
    · exact h.old j b hj
    · exact .inr (Nat.le_trans h.turn.size h1)
/-- A system of one's own that is new. -/
theorem Goes.fresh {w w' : World} {lo : Nat} {v v' : Sv} {vs vs' : List Lv} {s' : Sy} (h : OwnS w' w.heap.size v' vs' s') (k : Keeps w w') (hl : lo ≤ w.heap.size) : Goes w lo v vs w' v' vs' s' :=
  ⟨h.base hl, ⟨k.os, k.tape, k.output, k.size, fun b hb _ => Below.block k b hb⟩, fun _ _ hb => .inr (h.blkLt hb).1⟩
theorem Goes.ahead {w0 w w' : World} {lo : Nat} {v v' : Sv} {vs vs' : List Lv} {s' : Sy} (k : Keeps w0 w) (h : Goes w lo v vs w' v' vs' s') : Goes w0 lo v vs w' v' vs' s' := by
  refine ⟨h.own, ⟨h.turn.os.trans k.os, h.turn.tape.trans k.tape, h.turn.output.trans k.output, Nat.le_trans k.size h.turn.size, fun b hb hn => (h.turn.block b (Nat.lt_of_lt_of_le hb k.size) hn).trans (Below.block k b hb)⟩, fun i b hb => ?_⟩
  rcases h.old i b hb with h1 | h1
  · exact .inl h1
  · exact .inr (Nat.le_trans k.size h1)
theorem Goes.behind {w w' w'' : World} {lo : Nat} {v v' : Sv} {vs vs' : List Lv} {s' : Sy} (h : Goes w lo v vs w' v' vs' s') (k : Keeps w' w'') : Goes w lo v vs w'' v' vs' s' :=
  ⟨h.own.keeps k, ⟨k.os.trans h.turn.os, k.tape.trans h.turn.tape, k.output.trans h.turn.output, Nat.le_trans h.turn.size k.size, fun b hb hn => (Below.block k b (Nat.lt_of_lt_of_le hb h.turn.size)).trans (h.turn.block b hb hn)⟩, h.old⟩
theorem Goes.keeps {w0 w w' : World} {lo : Nat} {v v' : Sv} {vs vs' : List Lv} {s s' : Sy} (h : Goes w lo v vs w' v' vs' s') (h0 : OwnS w lo v vs s) (k : Keeps w0 w) (hl : w0.heap.size ≤ lo) : Keeps w0 w' :=
  h.turn.keeps k fun _ ⟨_, hi⟩ => Nat.le_trans hl (h0.blkLt hi).1
/-- A block that is none of it abides. -/
theorem Goes.blk {w w' : World} {lo : Nat} {v v' : Sv} {vs vs' : List Lv} {s' : Sy} (h : Goes w lo v vs w' v' vs' s') {b : Nat} {C : Array Value} (hb : Blk w b C) (hn : ∀ i, ¬ ofKind v vs i b) : Blk w' b C := by
  have e := h.turn.block b hb.lt (fun ⟨i, hi⟩ => hn i hi)
  exact ⟨Nat.lt_of_lt_of_le hb.lt h.turn.size, fun k => (World.cell?_of_block (w := w) e).trans (hb.cells k), fun k => (World.frozen?_of_block (w := w) e).trans (hb.frozens k)⟩
theorem Goes.far {w w' : World} {lo : Nat} {v v' : Sv} {vs vs' : List Lv} {s' : Sy} (h : Goes w lo v vs w' v' vs' s') {b : Nat} (hb : b < w.heap.size) (hn : ∀ i, ¬ ofKind v vs i b) : ∀ i, ¬ ofKind v' vs' i b := by
  intro i hi
  rcases h.old i b hi with ⟨j, hj⟩ | h1
  · exact hn j hj
  · omega

/-- The variable in block ob is the system s, whose rows are one's own. -/
structure VarS (w : World) (lo ob : Nat) (v : Sv) (vs : List Lv) (s : Sy) : Prop where
  box : Blk w ob (syc s v)
  own : OwnS w lo v vs s
  lob : lo ≤ ob
  far : ∀ i, ¬ ofKind v vs i ob
theorem VarS.keeps {w w' : World} {lo ob : Nat} {v : Sv} {vs : List Lv} {s : Sy} (h : VarS w lo ob v vs s) (k : Keeps w w') : VarS w' lo ob v vs s := ⟨h.box.keeps k, h.own.keeps k, h.lob, h.far⟩
/-- A new variable. -/
theorem VarS.new {w : World} {lo : Nat} {v : Sv} {vs : List Lv} {s : Sy} (h : OwnS w lo v vs s) (hl : lo ≤ w.heap.size) : VarS (w.alloc (.cells (syc s v) 37)) lo w.heap.size v vs s :=
  ⟨Blk.new _ _ _, h.keeps ((Keeps.refl _).alloc _), hl, fun i hi => by have := (h.blkLt hi).2; omega⟩
/-- It is handed on, and what comes back is stored over it. -/
theorem VarS.put {w w' : World} {lo ob : Nat} {v v' : Sv} {vs vs' : List Lv} {s s' : Sy} (h : VarS w lo ob v vs s) (g : Goes w lo v vs w' v' vs' s') : VarS (putC w' ob 0 (syc s' v').toList) lo ob v' vs' s' := by
  have hf := g.far h.box.lt h.far
  exact ⟨(g.blk h.box h.far).putC (syc s' v').toList rfl, OwnS.farC hf _ _ g.own, h.lob, hf⟩
theorem VarS.putKeeps {w0 w w' : World} {lo ob : Nat} {v v' : Sv} {vs vs' : List Lv} {s s' : Sy} (h : VarS w lo ob v vs s) (g : Goes w lo v vs w' v' vs' s') (k : Keeps w0 w) (hl : w0.heap.size ≤ lo) : Keeps w0 (putC w' ob 0 (syc s' v').toList) :=
  Keeps.putC (b := ob) (Nat.le_trans hl h.lob) _ 0 (g.keeps h.own k hl)
/-- A task of it is stored over. -/
theorem VarS.task {w : World} {lo ob : Nat} {v : Sv} {vs : List Lv} {s : Sy} (h : VarS w lo ob v vs s) {rb : Nat} (ha : v.t.a = some ⟨rb, 0, none⟩) {k : Nat} (hk : k < s.tasks.length) (x : Tsk) : VarS (putC w rb (k * 14) (tc x).toList) lo ob v vs { s with tasks := s.tasks.set k x } := by
  have ho : ofKind v vs 0 rb := by show v.t.val.ownBlock = some rb; rw [Rw.val, ha]; rfl
  have hne : rb ≠ ob := fun e => h.far 0 (by rw [← e]; exact ho)
  exact ⟨Blk.farC hne _ _ h.box, (h.own.storeT ha hk x).1, h.lob, h.far⟩
theorem VarS.taskKeeps {w0 w : World} {lo ob : Nat} {v : Sv} {vs : List Lv} {s : Sy} (h : VarS w lo ob v vs s) {rb : Nat} (ha : v.t.a = some ⟨rb, 0, none⟩) (k : Nat) (L : List Value) (k0 : Keeps w0 w) (hl : w0.heap.size ≤ lo) : Keeps w0 (putC w rb k L) := by
  have ho : ofKind v vs 0 rb := by show v.t.val.ownBlock = some rb; rw [Rw.val, ha]; rfl
  exact Keeps.putC (b := rb) (Nat.le_trans hl (h.own.blkLt ho).1) L k k0
/-- What else is stored elsewhere. -/
theorem VarS.elsewhere {w : World} {lo ob : Nat} {v : Sv} {vs : List Lv} {s : Sy} (h : VarS w lo ob v vs s) {c : Nat} (hc : ∀ i, ¬ ofKind v vs i c) (hne : c ≠ ob) (L : List Value) (k : Nat) : VarS (putC w c k L) lo ob v vs s :=
  ⟨Blk.farC hne L k h.box, OwnS.farC hc L k h.own, h.lob, h.far⟩
/-- The row of tasks has an address where it isn't empty. -/
theorem OwnS.tasksAt {w : World} {lo : Nat} {v : Sv} {vs : List Lv} {s : Sy} (h : OwnS w lo v vs s) {k : Nat} (hk : k < s.tasks.length) : ∃ rb, v.t.a = some ⟨rb, 0, none⟩ := by
  obtain ⟨b, cap, e⟩ := h.t.blk (by omega)
  simp only [Rw.val, Value.slice.injEq] at e
  exact ⟨b, e.1⟩
theorem OwnS.taskCells {w : World} {lo : Nat} {v : Sv} {vs : List Lv} {s : Sy} (h : OwnS w lo v vs s) {rb : Nat} (ha : v.t.a = some ⟨rb, 0, none⟩) {k : Nat} {t : Tsk} (ht : s.tasks[k]? = some t) : (∀ j, j < 14 → w.cell? ⟨rb, k * 14 + j, none⟩ = (tc t)[j]?) ∧ ∀ j, w.frozen? ⟨rb, j, none⟩ = false := by
  have hn := (h.t.row tc_size).1
  have hv : v.t.val = .slice (some ⟨rb, 0, none⟩) s.tasks.length v.t.cap := by rw [Rw.val, ha, hn]
  have O := h.t
  rw [hv] at O
  exact ⟨fun j hj => O.cellAt tc_size ht hj, fun j => O.frozenAt j⟩
end Go.Proofs.YthpdlbcdbncnhaaGreatDoor
namespace Go.Proofs.YthpdlbcdbncnhaaGreatDoor
open Go.RowKit

structure SysR (s : Sy) : Prop where
  now : 0 ≤ s.now ∧ s.now ≤ 100000
  cpus : 1 ≤ s.cpus ∧ s.cpus ≤ 4
  tasks : tasksB s.tasks = true
  locks : sysLocksB s = true
  ghosts : ghostsB s = true
  floors : (s.floors.length : Int) = s.cpus
  seq : 0 ≤ s.seq ∧ s.seq ≤ 1000000
  missed : 0 ≤ s.missed ∧ s.missed ≤ 100000
  trace : s.trace.length ≤ 400
  on : ∀ t ∈ s.tasks, t.cpu < s.cpus
  cpu : ∀ c : Nat, (c : Int) < s.cpus → cpuB s c = true
theorem sysB_iff {s : Sy} : sysB s = true ↔ SysR s := by
  unfold sysB headSB
  simp only [Bool.and_eq_true, inB_iff, List.all_eq_true, decide_eq_true_eq, beq_iff_eq, List.mem_range]
  constructor
  · rintro ⟨⟨h1, h2, h3, h4, h5, h6, h7, h8, h9⟩, h10, h11⟩
    exact ⟨h1, h2, h3, h4, h5, h6, h7, h8, h9, h10, fun c hc => h11 c (by omega)⟩
  · intro h
    exact ⟨⟨h.now, h.cpus, h.tasks, h.locks, h.ghosts, h.floors, h.seq, h.missed, h.trace⟩, h.on, fun c hc => h.cpu c (by omega)⟩
theorem taskB_cpu {t : Tsk} (h : taskB t = true) : 0 ≤ t.cpu ∧ t.cpu ≤ 3 := by
  unfold taskB at h
  simp only [Bool.and_eq_true, inB_iff] at h
  exact h.1.1.1.2
theorem SysR.onCpus {s : Sy} (h : SysR s) : OnCpus s := by
  intro t ht
  obtain ⟨i, hi⟩ := List.mem_iff_getElem?.1 ht
  have := taskB_cpu (tasksB_task h.tasks hi)
  have := h.on t ht
  have := h.floors
  omega
theorem SysR.few {s : Sy} (h : SysR s) : s.tasks.length ≤ 12 ∧ sizeN s.locks ≤ 1005 ∧ s.ghosts.length ≤ 12 ∧ s.floors.length ≤ 4 := by
  have h1 := tasksB_len h.tasks
  have h2 := h.locks
  unfold sysLocksB at h2
  simp only [Bool.and_eq_true, beq_iff_eq] at h2
  have h3 := (right_iff.1 h2.2.1).few
  have h4 := h.ghosts
  unfold ghostsB at h4
  simp only [Bool.and_eq_true, decide_eq_true_eq] at h4
  have h5 := h.floors
  have h6 := h.cpus
  refine ⟨h1, ?_, h4.2, by omega⟩
  unfold sizeN
  omega
theorem SysR.small {s : Sy} (h : SysR s) : sizeS s ≤ 1500 := by
  obtain ⟨h1, h2, h3, h4⟩ := h.few
  have := h.trace
  unfold sizeS
  omega
end Go.Proofs.YthpdlbcdbncnhaaGreatDoor
namespace Go.Proofs.YthpdlbcdbncnhaaGreatDoor
open Go.RowKit
attribute [local go_sem] Keeps.refl Keeps.alloc Keeps.drew Keeps.drewN

theorem OwnS.nothing (w : World) (lo : Nat) : OwnS w lo Sv.zero [] Sy.zero := by
  refine ⟨World.ownsRow_nil _ _ _ _, Mine.none _ _ _ _ (World.ownsRow_nil _ _ _ _) (fun b e => by simp [Value.ownBlock] at e), World.ownsRow_nil _ _ _ _, World.ownsRow_nil _ _ _ _, World.ownsRow_nil _ _ _ _, ?_⟩
  intro i j b hi hj
  match i, hi with
  | 0, hi => simp [ofKind, Value.ownBlock] at hi
  | 1, hi => simp [ofKind, Value.ownBlock] at hi
  | 2, hi => simp [ofKind, Value.ownBlock] at hi
  | 3, hi => simp [ofKind, Value.ownBlock] at hi
  | 4, hi => simp [ofKind, Value.ownBlock] at hi
/-- The rows of a new system. -/
abbrev newV (c b1 b3 : Nat) : Sv := ⟨⟨none, 0, 0⟩, ⟨some ⟨b1, 0, none⟩, 5, 5⟩, ⟨none, 0, 0⟩, ⟨some ⟨b3, 0, none⟩, c, c⟩, ⟨none, 0, 0⟩⟩
theorem newS_is {c : Nat} (h : inB (c : Int) 1 4 = true) : newS c = { Sy.zero with cpus := (c : Int), locks := List.replicate 5 ⟨0, []⟩, floors := List.replicate c 0 } := by
  unfold newS
  rw [h, if_pos rfl, Int.toNat_natCast]
theorem new_own {W : World} {lo c b1 b3 : Nat} (h : inB (c : Int) 1 4 = true) (L : Mine W lo W.heap.size (.slice (some ⟨b1, 0, none⟩) 5 5) (List.replicate 5 Lv.zero) (List.replicate 5 ⟨0, []⟩)) (F : OwnN W lo (.slice (some ⟨b3, 0, none⟩) c c) (List.replicate c 0)) (hne : b1 ≠ b3) :
    OwnS W lo (newV c b1 b3) (List.replicate 5 Lv.zero) (newS c) := by
  rw [newS_is h]
  refine ⟨World.ownsRow_nil _ _ _ _, L, World.ownsRow_nil _ _ _ _, F, World.ownsRow_nil _ _ _ _, ?_⟩
  have key : ∀ i b, ofKind (newV c b1 b3) (List.replicate 5 Lv.zero) i b → (i = 1 ∧ b = b1) ∨ (i = 3 ∧ b = b3) := by
    intro i b hi
    match i, hi with
    | 0, hi => simp [ofKind, Value.ownBlock] at hi
    | 1, hi =>
      rcases hi with hi | ⟨x, hx, hi⟩
      · simp [Value.ownBlock] at hi; exact .inl ⟨rfl, hi.symm⟩
      · have := List.eq_of_mem_replicate hx
        subst this
        simp [Value.ownBlock] at hi
    | 2, hi => simp [ofKind, Value.ownBlock] at hi
    | 3, hi => simp [ofKind, Value.ownBlock] at hi; exact .inr ⟨rfl, hi.symm⟩
    | 4, hi => simp [ofKind, Value.ownBlock] at hi
  intro i j b hi hj
  have := key i b hi
  have := key j b hj
  omega
theorem made_ints (c : Nat) : madeCells #[.int .i64 0] c = madeCells (ic 0) (c * 1) := by rw [Nat.mul_one]
set_option maxRecDepth 100000 in
set_option maxHeartbeats 4000000 in
theorem specSysNew_any (cpus : Int) (w : World) :
    Calls Tryz.prog 143 #[.int .i64 cpus] w fun e w' => ∃ v vs, e = .returned (.tuple #[.agg (syc (newS cpus) v), .bool (inB cpus 1 4)]) ∧ OwnS w' w.heap.size v vs (newS cpus) ∧ Keeps w w' := by
  cases hc : inB cpus 1 4
  · have Hn : Hid (newS cpus = Sy.zero) := by show _ = _; unfold newS; rw [hc]; rfl
    go_enter Tryz.func143, Tryz.ntmps143
    go_wp2_with (go_at_call 64; refine (l1In_any _ _ _ _).mono ?_; rintro e w' ⟨rfl, hw'⟩; have hw2 := hw'.symm; subst hw2; rw [hc])
    exact bodyPost_ret (v := .tuple #[.agg (syc Sy.zero Sv.zero), .bool false]) (by simp [results, Tryz.results143, go_sem, Sy.zero]) rfl ⟨Sv.zero, [], by rw [Hn.out], by rw [Hn.out]; exact OwnS.nothing _ _, (Keeps.refl w).alloc _⟩
  · obtain ⟨c1, c2⟩ := inB_iff.1 hc
    obtain ⟨c, rfl⟩ : ∃ c : Nat, cpus = (c : Int) := ⟨cpus.toNat, by omega⟩
    have hm1 : ∀ w : World, (Instr.makeSlice 33 (.int .i64 5) (.int .i64 5)).run Tryz.prog w = .ok (.slice (some ⟨w.heap.size, 0, none⟩) 5 5) (w.alloc (.cells (madeCells #[.int .i64 0, .slice none 0 0] 10) 104)) := by
      have := run_make_zero (P := Tryz.prog) 33 104 (.agg #[.int .i64 0, .slice none 0 0]) 2 32 Tryz.underlying33 (by kernel_rfl) 5 (by decide) (by decide)
      simpa [Value.cells] using this
    have hm2 : ∀ w : World, (Instr.makeSlice 25 (.int .i64 (c : Int)) (.int .i64 (c : Int))).run Tryz.prog w = .ok (.slice (some ⟨w.heap.size, 0, none⟩) c c) (w.alloc (.cells (madeCells #[.int .i64 0] c) 3)) := by
      have := run_make_zero (P := Tryz.prog) 25 3 (.int .i64 0) 1 8 Tryz.underlying25 (by kernel_rfl) c (by omega) (by omega)
      simpa [Value.cells] using this
    go_enter Tryz.func143, Tryz.ntmps143
    go_wp2_with (go_at_call 64; refine (l1In_any _ _ _ _).mono ?_; rintro e w' ⟨rfl, hw'⟩; have hw2 := hw'.symm; subst hw2; rw [hc])
    go_region
    · have L : Mine ((((w.alloc (.cells #[.int .i64 0, .int .i64 (c : Int), .slice none 0 0, .slice (some ⟨w.heap.size + 1, 0, none⟩) 5 5, .slice none 0 0, .slice (some ⟨w.heap.size + 1 + 1, 0, none⟩) c c, .int .i64 0, .int .i64 0, .slice none 0 0] 37)).alloc (.cells (madeCells #[.int .i64 0, .slice none 0 0] 10) 104)).alloc (.cells (madeCells #[.int .i64 0] c) 3)).drew) w.heap.size ((((w.alloc (.cells #[.int .i64 0, .int .i64 (c : Int), .slice none 0 0, .slice (some ⟨w.heap.size + 1, 0, none⟩) 5 5, .slice none 0 0, .slice (some ⟨w.heap.size + 1 + 1, 0, none⟩) c c, .int .i64 0, .int .i64 0, .slice none 0 0] 37)).alloc (.cells (madeCells #[.int .i64 0, .slice none 0 0] 10) 104)).alloc (.cells (madeCells #[.int .i64 0] c) 3)).drew).heap.size (.slice (some ⟨w.heap.size + 1, 0, none⟩) 5 5) (List.replicate 5 Lv.zero) (List.replicate 5 ⟨0, []⟩) := by
        have m := Mine.zero (w.alloc (.cells #[.int .i64 0, .int .i64 (c : Int), .slice none 0 0, .slice (some ⟨w.heap.size + 1, 0, none⟩) 5 5, .slice none 0 0, .slice (some ⟨w.heap.size + 1 + 1, 0, none⟩) c c, .int .i64 0, .int .i64 0, .slice none 0 0] 37)) 5 (by decide)
        simp only [World.size_alloc] at m
        exact (m.keeps ((Keeps.refl _).alloc _).drew).widen (by omega) (by simp)
      have F : OwnN ((((w.alloc (.cells #[.int .i64 0, .int .i64 (c : Int), .slice none 0 0, .slice (some ⟨w.heap.size + 1, 0, none⟩) 5 5, .slice none 0 0, .slice (some ⟨w.heap.size + 1 + 1, 0, none⟩) c c, .int .i64 0, .int .i64 0, .slice none 0 0] 37)).alloc (.cells (madeCells #[.int .i64 0, .slice none 0 0] 10) 104)).alloc (.cells (madeCells #[.int .i64 0] c) 3)).drew) w.heap.size (.slice (some ⟨w.heap.size + 1 + 1, 0, none⟩) c c) (List.replicate c 0) := by
        have f := Own.zeros (e := 3) ic_size (by decide) (0 : Int) ((w.alloc (.cells #[.int .i64 0, .int .i64 (c : Int), .slice none 0 0, .slice (some ⟨w.heap.size + 1, 0, none⟩) 5 5, .slice none 0 0, .slice (some ⟨w.heap.size + 1 + 1, 0, none⟩) c c, .int .i64 0, .int .i64 0, .slice none 0 0] 37)).alloc (.cells (madeCells #[.int .i64 0, .slice none 0 0] 10) 104)) c (by unfold maxLen; omega)
        rw [← made_ints] at f
        simp only [World.size_alloc] at f
        exact (f.keeps (Keeps.refl _).drew).base (by omega)
      have D : Blk ((((w.alloc (.cells #[.int .i64 0, .int .i64 (c : Int), .slice none 0 0, .slice (some ⟨w.heap.size + 1, 0, none⟩) 5 5, .slice none 0 0, .slice (some ⟨w.heap.size + 1 + 1, 0, none⟩) c c, .int .i64 0, .int .i64 0, .slice none 0 0] 37)).alloc (.cells (madeCells #[.int .i64 0, .slice none 0 0] 10) 104)).alloc (.cells (madeCells #[.int .i64 0] c) 3)).drew) w.heap.size #[.int .i64 0, .int .i64 (c : Int), .slice none 0 0, .slice (some ⟨w.heap.size + 1, 0, none⟩) 5 5, .slice none 0 0, .slice (some ⟨w.heap.size + 1 + 1, 0, none⟩) c c, .int .i64 0, .int .i64 0, .slice none 0 0] := (((Blk.new _ _ _).alloc _).alloc _).keeps (Keeps.refl _).drew
      have K : Keeps w ((((w.alloc (.cells #[.int .i64 0, .int .i64 (c : Int), .slice none 0 0, .slice (some ⟨w.heap.size + 1, 0, none⟩) 5 5, .slice none 0 0, .slice (some ⟨w.heap.size + 1 + 1, 0, none⟩) c c, .int .i64 0, .int .i64 0, .slice none 0 0] 37)).alloc (.cells (madeCells #[.int .i64 0, .slice none 0 0] 10) 104)).alloc (.cells (madeCells #[.int .i64 0] c) 3)).drew) := ((((Keeps.refl w).alloc _).alloc _).alloc _).drew
      have S0 := new_own hc L F (by omega)
      have e0 : Hid (newS c = { Sy.zero with cpus := (c : Int), locks := List.replicate 5 ⟨0, []⟩, floors := List.replicate c 0 }) := newS_is hc
      generalize (((w.alloc (.cells #[.int .i64 0, .int .i64 (c : Int), .slice none 0 0, .slice (some ⟨w.heap.size + 1, 0, none⟩) 5 5, .slice none 0 0, .slice (some ⟨w.heap.size + 1 + 1, 0, none⟩) c c, .int .i64 0, .int .i64 0, .slice none 0 0] 37)).alloc (.cells (madeCells #[.int .i64 0, .slice none 0 0] 10) 104)).alloc (.cells (madeCells #[.int .i64 0] c) 3)).drew = Z at *
      go_wp2
      exact bodyPost_ret (v := .tuple #[.agg (syc (newS c) (newV c (w.heap.size + 1) (w.heap.size + 1 + 1))), .bool true]) (by rw [e0.out]; simp [results, Tryz.results143, go_sem, D.cells, Sy.zero]) rfl ⟨_, rfl, ⟨_, S0⟩, K⟩
    · have L : Mine ((((w.alloc (.cells #[.int .i64 0, .int .i64 (c : Int), .slice none 0 0, .slice (some ⟨w.heap.size + 1 + 1, 0, none⟩) 5 5, .slice none 0 0, .slice (some ⟨w.heap.size + 1, 0, none⟩) c c, .int .i64 0, .int .i64 0, .slice none 0 0] 37)).alloc (.cells (madeCells #[.int .i64 0] c) 3)).alloc (.cells (madeCells #[.int .i64 0, .slice none 0 0] 10) 104)).drew) w.heap.size ((((w.alloc (.cells #[.int .i64 0, .int .i64 (c : Int), .slice none 0 0, .slice (some ⟨w.heap.size + 1 + 1, 0, none⟩) 5 5, .slice none 0 0, .slice (some ⟨w.heap.size + 1, 0, none⟩) c c, .int .i64 0, .int .i64 0, .slice none 0 0] 37)).alloc (.cells (madeCells #[.int .i64 0] c) 3)).alloc (.cells (madeCells #[.int .i64 0, .slice none 0 0] 10) 104)).drew).heap.size (.slice (some ⟨w.heap.size + 1 + 1, 0, none⟩) 5 5) (List.replicate 5 Lv.zero) (List.replicate 5 ⟨0, []⟩) := by
        have m := Mine.zero ((w.alloc (.cells #[.int .i64 0, .int .i64 (c : Int), .slice none 0 0, .slice (some ⟨w.heap.size + 1 + 1, 0, none⟩) 5 5, .slice none 0 0, .slice (some ⟨w.heap.size + 1, 0, none⟩) c c, .int .i64 0, .int .i64 0, .slice none 0 0] 37)).alloc (.cells (madeCells #[.int .i64 0] c) 3)) 5 (by decide)
        simp only [World.size_alloc] at m
        exact (m.keeps (Keeps.refl _).drew).widen (by omega) (by simp)
      have F : OwnN ((((w.alloc (.cells #[.int .i64 0, .int .i64 (c : Int), .slice none 0 0, .slice (some ⟨w.heap.size + 1 + 1, 0, none⟩) 5 5, .slice none 0 0, .slice (some ⟨w.heap.size + 1, 0, none⟩) c c, .int .i64 0, .int .i64 0, .slice none 0 0] 37)).alloc (.cells (madeCells #[.int .i64 0] c) 3)).alloc (.cells (madeCells #[.int .i64 0, .slice none 0 0] 10) 104)).drew) w.heap.size (.slice (some ⟨w.heap.size + 1, 0, none⟩) c c) (List.replicate c 0) := by
        have f := Own.zeros (e := 3) ic_size (by decide) (0 : Int) (w.alloc (.cells #[.int .i64 0, .int .i64 (c : Int), .slice none 0 0, .slice (some ⟨w.heap.size + 1 + 1, 0, none⟩) 5 5, .slice none 0 0, .slice (some ⟨w.heap.size + 1, 0, none⟩) c c, .int .i64 0, .int .i64 0, .slice none 0 0] 37)) c (by unfold maxLen; omega)
        rw [← made_ints] at f
        simp only [World.size_alloc] at f
        exact (f.keeps ((Keeps.refl _).alloc _).drew).base (by omega)
      have D : Blk ((((w.alloc (.cells #[.int .i64 0, .int .i64 (c : Int), .slice none 0 0, .slice (some ⟨w.heap.size + 1 + 1, 0, none⟩) 5 5, .slice none 0 0, .slice (some ⟨w.heap.size + 1, 0, none⟩) c c, .int .i64 0, .int .i64 0, .slice none 0 0] 37)).alloc (.cells (madeCells #[.int .i64 0] c) 3)).alloc (.cells (madeCells #[.int .i64 0, .slice none 0 0] 10) 104)).drew) w.heap.size #[.int .i64 0, .int .i64 (c : Int), .slice none 0 0, .slice (some ⟨w.heap.size + 1 + 1, 0, none⟩) 5 5, .slice none 0 0, .slice (some ⟨w.heap.size + 1, 0, none⟩) c c, .int .i64 0, .int .i64 0, .slice none 0 0] := (((Blk.new _ _ _).alloc _).alloc _).keeps (Keeps.refl _).drew
      have K : Keeps w ((((w.alloc (.cells #[.int .i64 0, .int .i64 (c : Int), .slice none 0 0, .slice (some ⟨w.heap.size + 1 + 1, 0, none⟩) 5 5, .slice none 0 0, .slice (some ⟨w.heap.size + 1, 0, none⟩) c c, .int .i64 0, .int .i64 0, .slice none 0 0] 37)).alloc (.cells (madeCells #[.int .i64 0] c) 3)).alloc (.cells (madeCells #[.int .i64 0, .slice none 0 0] 10) 104)).drew) := ((((Keeps.refl w).alloc _).alloc _).alloc _).drew
      have S0 := new_own hc L F (by omega)
      have e0 : Hid (newS c = { Sy.zero with cpus := (c : Int), locks := List.replicate 5 ⟨0, []⟩, floors := List.replicate c 0 }) := newS_is hc
      generalize (((w.alloc (.cells #[.int .i64 0, .int .i64 (c : Int), .slice none 0 0, .slice (some ⟨w.heap.size + 1 + 1, 0, none⟩) 5 5, .slice none 0 0, .slice (some ⟨w.heap.size + 1, 0, none⟩) c c, .int .i64 0, .int .i64 0, .slice none 0 0] 37)).alloc (.cells (madeCells #[.int .i64 0] c) 3)).alloc (.cells (madeCells #[.int .i64 0, .slice none 0 0] 10) 104)).drew = Z at *
      go_wp2
      exact bodyPost_ret (v := .tuple #[.agg (syc (newS c) (newV c (w.heap.size + 1 + 1) (w.heap.size + 1))), .bool true]) (by rw [e0.out]; simp [results, Tryz.results143, go_sem, D.cells, Sy.zero]) rfl ⟨_, rfl, ⟨_, S0⟩, K⟩
end Go.Proofs.YthpdlbcdbncnhaaGreatDoor
namespace Go.Proofs.YthpdlbcdbncnhaaGreatDoor
open Go.RowKit
attribute [local go_sem] Keeps.refl Keeps.alloc Keeps.drew Keeps.drewN

theorem newS_size (cpus : Int) : sizeS (newS cpus) ≤ 9 := by
  unfold newS
  split
  · rename_i h
    have := inB_iff.1 h
    simp [sizeS, Sy.zero, sizeN, sumW]
    omega
  · simp [sizeS, Sy.zero, sizeN, sumW]
theorem sumW_marks (k : Int) (ls : List Lk) : sumW (marksL k ls) = sumW ls := by
  have h : ∀ (ls : List Lk) (f : Nat → Lk → Lk), (∀ i l, (f i l).waits.length = l.waits.length) → sumW (ls.mapIdx f) = sumW ls := by
    intro ls
    induction ls with
    | nil => intro f _; rfl
    | cons l r ih =>
      intro f hf
      rw [List.mapIdx_cons]
      simp only [sumW, hf]
      rw [ih (fun i => f (i + 1)) fun i l => hf (i + 1) l]
  exact h ls _ fun i l => by simp [markL, upFrom]
theorem marksS_size (k : Int) (s : Sy) : sizeS (marksS k s) = sizeS s := by
  unfold sizeS marksS sizeN
  simp [marks, marksG, marksR, upFrom, sumW_marks, marksL_length]
theorem marksEnd_pos (s : Sy) : 1 ≤ marksEnd 1 s := by unfold marksEnd; omega
/-- What lay when a system of one's own began lies on when it has been marked. -/
theorem TurnsB.past {A w w' : World} {v : Sv} {vs : List Lv} {s : Sy} (t : TurnsB (fun q => ∃ i, ofKind v vs i q) w w') (o : OwnS w A.heap.size v vs s) (k : Keeps A w) : Keeps A w' := t.keeps k fun q hq => by obtain ⟨i, hi⟩ := hq; exact (o.blkLt hi).1
end Go.Proofs.YthpdlbcdbncnhaaGreatDoor
namespace Go.Proofs.YthpdlbcdbncnhaaGreatDoor
open Go.RowKit
attribute [local go_sem] Keeps.refl Keeps.alloc Keeps.drew Keeps.drewN

def mkP (k : Int) : Int × Int := (k, k + 1)
def marksP (k : Int) (n : Nat) : List (Int × Int) := (List.range n).map fun i : Nat => mkP (k + 2 * (i : Int))
theorem marksP_get {k : Int} {n i : Nat} (h : i < n) : (marksP k n)[i]? = some (mkP (k + 2 * (i : Int))) := by simp [marksP, h]
theorem marksP_length (k : Int) (n : Nat) : (marksP k n).length = n := by simp [marksP]

set_option maxRecDepth 100000 in
theorem eqShare_pc (x : Int × Int) (w : World) :
    Calls Tryz.prog 140 #[.agg (pc x), .agg (pc x)] w fun e w' => e = .returned (.bool true) ∧ Keeps w w' := by
  obtain ⟨q, p⟩ := x
  have e1 : (q != q) = false := by simp
  have e2 : (p != p) = false := by simp
  go_enter Tryz.func140, Tryz.ntmps140
  go_wp2
  go_ret
  exact ⟨rfl, ((Keeps.refl _).alloc _).alloc _⟩

/-- Its cells, written out. -/
abbrev mkPC (k : Int) : Array Value := #[.int .i64 (k), .int .i64 (k + 1)]
end Go.Proofs.YthpdlbcdbncnhaaGreatDoor
namespace Go.Proofs.YthpdlbcdbncnhaaGreatDoor
open Go.RowKit
attribute [local go_sem] Keeps.refl Keeps.alloc Keeps.drew Keeps.drewN

theorem Lies.drop {α : Type} {sz : Nat} {c : α → Array Value} {w : World} {b off : Nat} {xs : List α} (h : Lies sz c w (some ⟨b, off, none⟩) xs) (f : Nat) : Lies sz c w (some ⟨b, off + f * sz, none⟩) (xs.drop f) := by
  rcases h with h | ⟨b', off', e, hb, h⟩
  · exact .inl (by rw [h]; simp)
  · simp only [Option.some.injEq, Addr.mk.injEq] at e
    obtain ⟨rfl, rfl, -⟩ := e
    refine .inr ⟨b, _, rfl, hb, fun i x hi k hk => ?_⟩
    rw [List.getElem?_drop] at hi
    have := h (f + i) x hi k hk
    rw [Nat.add_mul] at this
    rw [show off + f * sz + i * sz + k = off + (f * sz + i * sz) + k from by omega]
    exact this
end Go.Proofs.YthpdlbcdbncnhaaGreatDoor
