/-
  What a right system is, limb by limb; it is small.
  The system: a new one.
  The walk of FnExactSysNew, over a contract of the program's SysNew.
  Rows of parts of time, held against each other, marked, and looked at again.
  A system of one's own, in a variable: calls that turn it, stores into it.
  Ticks: the last turns.
-/
import Derived.Test.YthobpahnmmdbiaaGreatDoorGSys3
import Derived.Test.YthobpahnmmdbiaaGreatDoorGLock2
import Derived.Test.YthobpahnmmdbiaaGreatDoorGTask3
import Derived.RegionTactic
import Derived.BigRegion
import Derived.Deep.RegionHeld3
import Derived.Test.YthobpahnmmdbiaaGreatDoorGSys2
import Derived.Test.YthobpahnmmdbiaaGreatDoorGPure2
import Derived.Test.YthobpahnmmdbiaaGreatDoorGDff1
namespace Go.Proofs.YthobpahnmmdbiaaGreatDoor
open Go.RowKit

structure SysR (s : Sy) : Prop where
  now : 0 ≤ s.now ∧ s.now ≤ 100000
  cpus : 1 ≤ s.cpus ∧ s.cpus ≤ 4
  tasks : tasksB s.tasks = true
  locks : sysLocksB s = true
  ghosts : ghostsB s = true
  floors : (s.floors.length : Int) = s.cpus
  seq : 0 ≤ s.seq ∧ s.seq ≤ 1000000
  missed : 0 ≤ s.missed ∧ s.missed ≤ 100000
  trace : s.trace.length ≤ 400
  on : ∀ t ∈ s.tasks, t.cpu < s.cpus
  cpu : ∀ c : Nat, (c : Int) < s.cpus → cpuB s c = true
theorem sysB_iff {s : Sy} : sysB s = true ↔ SysR s := by
  unfold sysB headSB
  simp only [Bool.and_eq_true, inB_iff, List.all_eq_true, decide_eq_true_eq, beq_iff_eq, List.mem_range]
  constructor
  · rintro ⟨⟨h1, h2, h3, h4, h5, h6, h7, h8, h9⟩, h10, h11⟩
    exact ⟨h1, h2, h3, h4, h5, h6, h7, h8, h9, h10, fun c hc => h11 c (by omega)⟩
  · intro h
    exact ⟨⟨h.now, h.cpus, h.tasks, h.locks, h.ghosts, h.floors, h.seq, h.missed, h.trace⟩, h.on, fun c hc => h.cpu c (by omega)⟩
theorem taskB_cpu {t : Tsk} (h : taskB t = true) : 0 ≤ t.cpu ∧ t.cpu ≤ 3 := by
  unfold taskB at h
  simp only [Bool.and_eq_true, inB_iff] at h
  exact h.1.1.1.2
theorem SysR.onCpus {s : Sy} (h : SysR s) : OnCpus s := by
  intro t ht
  obtain ⟨i, hi⟩ := List.mem_iff_getElem?.1 ht
  have := taskB_cpu (tasksB_task h.tasks hi)
  have := h.on t ht
  have := h.floors
  omega
theorem SysR.few {s : Sy} (h : SysR s) : s.tasks.length ≤ 12 ∧ sizeN s.locks ≤ 1005 ∧ s.ghosts.length ≤ 12 ∧ s.floors.length ≤ 4 := by
  have h1 := tasksB_len h.tasks
  have h2 := h.locks
  unfold sysLocksB at h2
  simp only [Bool.and_eq_true, beq_iff_eq] at h2
  have h3 := (right_iff.1 h2.2.1).few
  have h4 := h.ghosts
  unfold ghostsB at h4
  simp only [Bool.and_eq_true, decide_eq_true_eq] at h4
  have h5 := h.floors
  have h6 := h.cpus
  refine ⟨h1, ?_, h4.2, by omega⟩
  unfold sizeN
  omega
theorem SysR.small {s : Sy} (h : SysR s) : sizeS s ≤ 1500 := by
  obtain ⟨h1, h2, h3, h4⟩ := h.few
  have := h.trace
  unfold sizeS
  omega
end Go.Proofs.YthobpahnmmdbiaaGreatDoor
namespace Go.Proofs.YthobpahnmmdbiaaGreatDoor
open Go.RowKit
attribute [local go_sem] Keeps.refl Keeps.alloc Keeps.drew Keeps.drewN

theorem OwnS.nothing (w : World) (lo : Nat) : OwnS w lo Sv.zero [] Sy.zero := by
  refine ⟨World.ownsRow_nil _ _ _ _, Mine.none _ _ _ _ (World.ownsRow_nil _ _ _ _) (fun b e => by simp [Value.ownBlock] at e), World.ownsRow_nil _ _ _ _, World.ownsRow_nil _ _ _ _, World.ownsRow_nil _ _ _ _, ?_⟩
  intro i j b hi hj
  match i, hi with
  | 0, hi => simp [ofKind, Value.ownBlock] at hi
  | 1, hi => simp [ofKind, Value.ownBlock] at hi
  | 2, hi => simp [ofKind, Value.ownBlock] at hi
  | 3, hi => simp [ofKind, Value.ownBlock] at hi
  | 4, hi => simp [ofKind, Value.ownBlock] at hi
end Go.Proofs.YthobpahnmmdbiaaGreatDoor
namespace Go.Proofs.YthobpahnmmdbiaaGreatDoor
open Go.RowKit
attribute [local go_sem] Keeps.refl Keeps.alloc Keeps.drew Keeps.drewN

end Go.Proofs.YthobpahnmmdbiaaGreatDoor
namespace Go.Proofs.YthobpahnmmdbiaaGreatDoor
open Go.RowKit
attribute [local go_sem] Keeps.refl Keeps.alloc Keeps.drew Keeps.drewN

end Go.Proofs.YthobpahnmmdbiaaGreatDoor
namespace Go.Proofs.YthobpahnmmdbiaaGreatDoor
open Go.RowKit

/-- A system of one's own has become another one: nothing else has turned, and its rows lie where they lay or in new blocks. -/
structure Goes (w : World) (lo : Nat) (v : Sv) (vs : List Lv) (w' : World) (v' : Sv) (vs' : List Lv) (s' : Sy) : Prop where
  own : OwnS w' lo v' vs' s'
  turn : TurnsB (fun b => ∃ i, ofKind v vs i b) w w'
  old : ∀ i b, ofKind v' vs' i b → (∃ j, ofKind v vs j b) ∨ w.heap.size ≤ b
theorem Goes.refl {w : World} {lo : Nat} {v : Sv} {vs : List Lv} {s : Sy} (h : OwnS w lo v vs s) : Goes w lo v vs w v vs s := ⟨h, TurnsB.refl _ _, fun i _ hb => .inl ⟨i, hb⟩⟩
theorem Goes.trans {w w' w'' : World} {lo : Nat} {v v' v'' : Sv} {vs vs' vs'' : List Lv} {s' s'' : Sy} (h : Goes w lo v vs w' v' vs' s') (k : Goes w' lo v' vs' w'' v'' vs'' s'') : Goes w lo v vs w'' v'' vs'' s'' := by
  refine ⟨k.own, ⟨k.turn.os.trans h.turn.os, k.turn.tape.trans h.turn.tape, k.turn.output.trans h.turn.output, Nat.le_trans h.turn.size k.turn.size, fun b hb hn => ?_⟩, fun i b hb => ?_⟩
  · refine (k.turn.block b (Nat.lt_of_lt_of_le hb h.turn.size) ?_).trans (h.turn.block b hb hn)
    rintro ⟨i, hi⟩
    rcases h.old i b hi with h1 | h1
    · exact hn h1
    · omega
  · rcases k.old i b hb with ⟨j, hj⟩ | h1
    · exact h.old j b hj
    · exact .inr (Nat.le_trans h.turn.size h1)
/-- A system of one's own that is new. -/
theorem Goes.fresh {w w' : World} {lo : Nat} {v v' : Sv} {vs vs' : List Lv} {s' : Sy} (h : OwnS w' w.heap.size v' vs' s') (k : Keeps w w') (hl : lo ≤ w.heap.size) : Goes w lo v vs w' v' vs' s' :=
  ⟨h.base hl, ⟨k.os, k.tape, k.output, k.size, fun b hb _ => Below.block k b hb⟩, fun _ _ hb => .inr (h.blkLt hb).1⟩
theorem Goes.ahead {w0 w w' : World} {lo : Nat} {v v' : Sv} {vs vs' : List Lv} {s' : Sy} (k : Keeps w0 w) (h : Goes w lo v vs w' v' vs' s') : Goes w0 lo v vs w' v' vs' s' := by
  refine ⟨h.own, ⟨h.turn.os.trans k.os, h.turn.tape.trans k.tape, h.turn.output.trans k.output, Nat.le_trans k.size h.turn.size, fun b hb hn => (h.turn.block b (Nat.lt_of_lt_of_le hb k.size) hn).trans (Below.block k b hb)⟩, fun i b hb => ?_⟩
  rcases h.old i b hb with h1 | h1
  · exact .inl h1
  · exact .inr (Nat.le_trans k.size h1)
theorem Goes.behind {w w' w'' : World} {lo : Nat} {v v' : Sv} {vs vs' : List Lv} {s' : Sy} (h : Goes w lo v vs w' v' vs' s') (k : Keeps w' w'') : Goes w lo v vs w'' v' vs' s' :=
  ⟨h.own.keeps k, ⟨k.os.trans h.turn.os, k.tape.trans h.turn.tape, k.output.trans h.turn.output, Nat.le_trans h.turn.size k.size, fun b hb hn => (Below.block k b (Nat.lt_of_lt_of_le hb h.turn.size)).trans (h.turn.block b hb hn)⟩, h.old⟩
theorem Goes.keeps {w0 w w' : World} {lo : Nat} {v v' : Sv} {vs vs' : List Lv} {s s' : Sy} (h : Goes w lo v vs w' v' vs' s') (h0 : OwnS w lo v vs s) (k : Keeps w0 w) (hl : w0.heap.size ≤ lo) : Keeps w0 w' :=
  h.turn.keeps k fun _ ⟨_, hi⟩ => Nat.le_trans hl (h0.blkLt hi).1
/-- A block that is none of it abides. -/
theorem Goes.blk {w w' : World} {lo : Nat} {v v' : Sv} {vs vs' : List Lv} {s' : Sy} (h : Goes w lo v vs w' v' vs' s') {b : Nat} {C : Array Value} (hb : Blk w b C) (hn : ∀ i, ¬ ofKind v vs i b) : Blk w' b C := by
  have e := h.turn.block b hb.lt (fun ⟨i, hi⟩ => hn i hi)
  exact ⟨Nat.lt_of_lt_of_le hb.lt h.turn.size, fun k => (World.cell?_of_block (w := w) e).trans (hb.cells k), fun k => (World.frozen?_of_block (w := w) e).trans (hb.frozens k)⟩
theorem Goes.far {w w' : World} {lo : Nat} {v v' : Sv} {vs vs' : List Lv} {s' : Sy} (h : Goes w lo v vs w' v' vs' s') {b : Nat} (hb : b < w.heap.size) (hn : ∀ i, ¬ ofKind v vs i b) : ∀ i, ¬ ofKind v' vs' i b := by
  intro i hi
  rcases h.old i b hi with ⟨j, hj⟩ | h1
  · exact hn j hj
  · omega

/-- The variable in block ob is the system s, whose rows are one's own. -/
structure VarS (w : World) (lo ob : Nat) (v : Sv) (vs : List Lv) (s : Sy) : Prop where
  box : Blk w ob (syc s v)
  own : OwnS w lo v vs s
  lob : lo ≤ ob
  far : ∀ i, ¬ ofKind v vs i ob
theorem VarS.keeps {w w' : World} {lo ob : Nat} {v : Sv} {vs : List Lv} {s : Sy} (h : VarS w lo ob v vs s) (k : Keeps w w') : VarS w' lo ob v vs s := ⟨h.box.keeps k, h.own.keeps k, h.lob, h.far⟩
/-- A new variable. -/
theorem VarS.new {w : World} {lo : Nat} {v : Sv} {vs : List Lv} {s : Sy} (h : OwnS w lo v vs s) (hl : lo ≤ w.heap.size) : VarS (w.alloc (.cells (syc s v) 30)) lo w.heap.size v vs s :=
  ⟨Blk.new _ _ _, h.keeps ((Keeps.refl _).alloc _), hl, fun i hi => by have := (h.blkLt hi).2; omega⟩
/-- It is handed on, and what comes back is stored over it. -/
theorem VarS.put {w w' : World} {lo ob : Nat} {v v' : Sv} {vs vs' : List Lv} {s s' : Sy} (h : VarS w lo ob v vs s) (g : Goes w lo v vs w' v' vs' s') : VarS (putC w' ob 0 (syc s' v').toList) lo ob v' vs' s' := by
  have hf := g.far h.box.lt h.far
  exact ⟨(g.blk h.box h.far).putC (syc s' v').toList rfl, OwnS.farC hf _ _ g.own, h.lob, hf⟩
/-- A task of it is stored over. -/
theorem VarS.task {w : World} {lo ob : Nat} {v : Sv} {vs : List Lv} {s : Sy} (h : VarS w lo ob v vs s) {rb : Nat} (ha : v.t.a = some ⟨rb, 0, none⟩) {k : Nat} (hk : k < s.tasks.length) (x : Tsk) : VarS (putC w rb (k * 14) (tc x).toList) lo ob v vs { s with tasks := s.tasks.set k x } := by
  have ho : ofKind v vs 0 rb := by show v.t.val.ownBlock = some rb; rw [Rw.val, ha]; rfl
  have hne : rb ≠ ob := fun e => h.far 0 (by rw [← e]; exact ho)
  exact ⟨Blk.farC hne _ _ h.box, (h.own.storeT ha hk x).1, h.lob, h.far⟩
end Go.Proofs.YthobpahnmmdbiaaGreatDoor
namespace Go.Proofs.YthobpahnmmdbiaaGreatDoor
open Go.RowKit
attribute [local go_sem] Keeps.refl Keeps.alloc Keeps.drew Keeps.drewN

theorem Lies.drop {α : Type} {sz : Nat} {c : α → Array Value} {w : World} {b off : Nat} {xs : List α} (h : Lies sz c w (some ⟨b, off, none⟩) xs) (f : Nat) : Lies sz c w (some ⟨b, off + f * sz, none⟩) (xs.drop f) := by
  rcases h with h | ⟨b', off', e, hb, h⟩
  · exact .inl (by rw [h]; simp)
  · simp only [Option.some.injEq, Addr.mk.injEq] at e
    obtain ⟨rfl, rfl, -⟩ := e
    refine .inr ⟨b, _, rfl, hb, fun i x hi k hk => ?_⟩
    rw [List.getElem?_drop] at hi
    have := h (f + i) x hi k hk
    rw [Nat.add_mul] at this
    rw [show off + f * sz + i * sz + k = off + (f * sz + i * sz) + k from by omega]
    exact this
end Go.Proofs.YthobpahnmmdbiaaGreatDoor
