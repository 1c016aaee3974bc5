/-
  The system is marked, and looked at again.
  The system is marked, and looked at again: as a whole.
  A system of one's own: a task is stored over another one; and what else turns leaves it as it is.
  A system of one's own, in a variable: calls that turn it, stores into it.
  A system of one's own in a variable, and what it was when the call began: each store, and what it leaves.
  The system: a new one.
-/
import Derived.Test.YtpikopdfkhagmaaGreatDoorTaskMark
import Derived.Test.YtpikopdfkhagmaaGreatDoorSysCopy
import Derived.RegionTactic
import Derived.BigRegion
namespace Go.Proofs.YtpikopdfkhagmaaGreatDoor
open Go.RowKit
attribute [local go_sem] Keeps.refl Keeps.alloc Keeps.drew Keeps.drewN

/-- Only blocks of this kind have turned. -/
structure TurnsB (P : Nat → Prop) (w w' : World) : Prop where
  os : w'.os = w.os
  tape : w'.tape = w.tape
  output : w'.output = w.output
  size : w.heap.size ≤ w'.heap.size
  block : ∀ b, b < w.heap.size → ¬ P b → w'.heap[b]? = w.heap[b]?
theorem TurnsB.refl (P : Nat → Prop) (w : World) : TurnsB P w w := ⟨rfl, rfl, rfl, Nat.le_refl _, fun _ _ _ => rfl⟩
theorem TurnsB.trans {P : Nat → Prop} {a b c : World} (h : TurnsB P a b) (k : TurnsB P b c) : TurnsB P a c :=
  ⟨k.os.trans h.os, k.tape.trans h.tape, k.output.trans h.output, Nat.le_trans h.size k.size, fun q hq hn => (k.block q (Nat.lt_of_lt_of_le hq h.size) hn).trans (h.block q hq hn)⟩
theorem TurnsB.mono {P Q : Nat → Prop} {a b : World} (h : TurnsB P a b) (k : ∀ q, P q → Q q) : TurnsB Q a b := ⟨h.os, h.tape, h.output, h.size, fun q hq hn => h.block q hq fun hp => hn (k q hp)⟩
theorem TurnsB.grown {a b : World} {row : Option Nat} (h : a.grownBy b row) : TurnsB (fun q => row = some q) a b := ⟨h.os, h.tape, h.output, h.size, fun q hq hn => h.block q hq fun e => hn e.symm⟩
theorem TurnsB.keeps {P : Nat → Prop} {w a b : World} (h : TurnsB P a b) (k : Keeps w a) (hp : ∀ q, P q → w.heap.size ≤ q) : Keeps w b :=
  Below.trans k ⟨h.os, h.tape, h.output, h.size, fun i hi => h.block i (Nat.lt_of_lt_of_le hi k.size) fun hq => by have := hp i hq; omega⟩
end Go.Proofs.YtpikopdfkhagmaaGreatDoor
namespace Go.Proofs.YtpikopdfkhagmaaGreatDoor
open Go.RowKit
attribute [local go_sem] Keeps.refl Keeps.alloc Keeps.drew Keeps.drewN

end Go.Proofs.YtpikopdfkhagmaaGreatDoor
namespace Go.Proofs.YtpikopdfkhagmaaGreatDoor
open Go.RowKit

/-- Every task is of a processor that has a floor. -/
def OnCpus (s : Sy) : Prop := ∀ t ∈ s.tasks, 0 ≤ t.cpu ∧ t.cpu < (s.floors.length : Int)
/-- Where none of its blocks has turned. -/
theorem OwnS.aside {w w' : World} {lo : Nat} {v : Sv} {vs : List Lv} {s : Sy} (h : OwnS w lo v vs s) (hz : w.heap.size ≤ w'.heap.size) (k : ∀ i b, ofKind v vs i b → w'.heap[b]? = w.heap[b]?) : OwnS w' lo v vs s :=
  ⟨h.t.same fun b e => k 0 b e, (h.l.sameB fun b e => k 1 b e).widen (Nat.le_refl _) hz, h.g.same fun b e => k 2 b e, h.f.same fun b e => k 3 b e, h.r.same fun b e => k 4 b e, h.ap⟩
/-- A cell of another block is stored. -/
theorem OwnS.far {w : World} {lo : Nat} {v : Sv} {vs : List Lv} {s : Sy} (h : OwnS w lo v vs s) {c o : Nat} (hc : ∀ i, ¬ ofKind v vs i c) (x : Value) : OwnS (w.setCell ⟨c, o, none⟩ x) lo v vs s :=
  h.aside (by simp) fun i b hb => heap_setCell (by intro e; subst e; exact hc i hb)
/-- A struct is written over another block. -/
theorem OwnS.farC {lo : Nat} {v : Sv} {vs : List Lv} {s : Sy} {c : Nat} (hc : ∀ i, ¬ ofKind v vs i c) : ∀ (L : List Value) {w : World} (k : Nat), OwnS w lo v vs s → OwnS (putC w c k L) lo v vs s
  | [], _, _, h => h
  | x :: r, _, k, h => OwnS.farC hc r (k + 1) (h.far hc x)
/-- A task is stored over another one. -/
theorem OwnS.storeT {w : World} {lo : Nat} {v : Sv} {vs : List Lv} {s : Sy} (h : OwnS w lo v vs s) {rb : Nat} (ha : v.t.a = some ⟨rb, 0, none⟩) {k : Nat} (hk : k < s.tasks.length) (x : Tsk) :
    OwnS (putC w rb (k * 14) (tc x).toList) lo v vs { s with tasks := s.tasks.set k x } ∧ TurnsB (ofKind v vs 0) w (putC w rb (k * 14) (tc x).toList) := by
  have hn := (h.t.row tc_size).1
  have hv : v.t.val = .slice (some ⟨rb, 0, none⟩) s.tasks.length v.t.cap := by rw [Rw.val, ha, hn]
  have O := h.t
  rw [hv] at O
  have G : w.grownBy (putC w rb (k * 14) (tc x).toList) (some rb) := grown_putC _ _ _ (World.grownBy.refl _ _)
  have ho : v.t.val.ownBlock = some rb := by rw [hv]; rfl
  refine ⟨h.setT G.size (fun b hb hn => G.block b hb (fun e => hn (by show v.t.val.ownBlock = some b; rw [ho, e]))) v.t _ ?_ (fun b e => .inl e), ?_⟩
  · have := O.put tc_size hk x
    rw [List.length_set] at this
    rw [hv]
    exact this
  · exact (TurnsB.grown G).mono fun q hq => by show v.t.val.ownBlock = some q; rw [ho]; exact hq
end Go.Proofs.YtpikopdfkhagmaaGreatDoor
namespace Go.Proofs.YtpikopdfkhagmaaGreatDoor
open Go.RowKit

/-- The cells of a system of which nothing is there. -/
abbrev zc : Array Value := #[.int .i64 0, .int .i64 0, .slice none 0 0, .slice none 0 0, .slice none 0 0, .slice none 0 0, .int .i64 0, .int .i64 0, .slice none 0 0]
/-- A system of one's own has become another one: nothing else has turned, and its rows lie where they lay or in new blocks. -/
structure Goes (w : World) (lo : Nat) (v : Sv) (vs : List Lv) (w' : World) (v' : Sv) (vs' : List Lv) (s' : Sy) : Prop where
  own : OwnS w' lo v' vs' s'
  turn : TurnsB (fun b => ∃ i, ofKind v vs i b) w w'
  old : ∀ i b, ofKind v' vs' i b → (∃ j, ofKind v vs j b) ∨ w.heap.size ≤ b
theorem Goes.refl {w : World} {lo : Nat} {v : Sv} {vs : List Lv} {s : Sy} (h : OwnS w lo v vs s) : Goes w lo v vs w v vs s := ⟨h, TurnsB.refl _ _, fun i _ hb => .inl ⟨i, hb⟩⟩
theorem Goes.trans {w w' w'' : World} {lo : Nat} {v v' v'' : Sv} {vs vs' vs'' : List Lv} {s' s'' : Sy} (h : Goes w lo v vs w' v' vs' s') (k : Goes w' lo v' vs' w'' v'' vs'' s'') : Goes w lo v vs w'' v'' vs'' s'' := by
  refine ⟨k.own, ⟨k.turn.os.trans h.turn.os, k.turn.tape.trans h.turn.tape, k.turn.output.trans h.turn.output, Nat.le_trans h.turn.size k.turn.size, fun b hb hn => ?_⟩, fun i b hb => ?_⟩
  · refine (k.turn.block b (Nat.lt_of_lt_of_le hb h.turn.size) ?_).trans (h.turn.block b hb hn)
    rintro ⟨i, hi⟩
    rcases h.old i b hi with h1 | h1
    · exact hn h1
    · omega
  · rcases k.old i b hb with ⟨j, hj⟩ | h1
    · exact h.old j b hj
    · exact .inr (Nat.le_trans h.turn.size h1)
/-- A system of one's own that is new. -/
theorem Goes.fresh {w w' : World} {lo : Nat} {v v' : Sv} {vs vs' : List Lv} {s' : Sy} (h : OwnS w' w.heap.size v' vs' s') (k : Keeps w w') (hl : lo ≤ w.heap.size) : Goes w lo v vs w' v' vs' s' :=
  ⟨h.base hl, ⟨k.os, k.tape, k.output, k.size, fun b hb _ => Below.block k b hb⟩, fun _ _ hb => .inr (h.blkLt hb).1⟩
theorem Goes.ahead {w0 w w' : World} {lo : Nat} {v v' : Sv} {vs vs' : List Lv} {s' : Sy} (k : Keeps w0 w) (h : Goes w lo v vs w' v' vs' s') : Goes w0 lo v vs w' v' vs' s' := by
  refine ⟨h.own, ⟨h.turn.os.trans k.os, h.turn.tape.trans k.tape, h.turn.output.trans k.output, Nat.le_trans k.size h.turn.size, fun b hb hn => (h.turn.block b (Nat.lt_of_lt_of_le hb k.size) hn).trans (Below.block k b hb)⟩, fun i b hb => ?_⟩
  rcases h.old i b hb with h1 | h1
  · exact .inl h1
  · exact .inr (Nat.le_trans k.size h1)
theorem Goes.behind {w w' w'' : World} {lo : Nat} {v v' : Sv} {vs vs' : List Lv} {s' : Sy} (h : Goes w lo v vs w' v' vs' s') (k : Keeps w' w'') : Goes w lo v vs w'' v' vs' s' :=
  ⟨h.own.keeps k, ⟨k.os.trans h.turn.os, k.tape.trans h.turn.tape, k.output.trans h.turn.output, Nat.le_trans h.turn.size k.size, fun b hb hn => (Below.block k b (Nat.lt_of_lt_of_le hb h.turn.size)).trans (h.turn.block b hb hn)⟩, h.old⟩
theorem Goes.keeps {w0 w w' : World} {lo : Nat} {v v' : Sv} {vs vs' : List Lv} {s s' : Sy} (h : Goes w lo v vs w' v' vs' s') (h0 : OwnS w lo v vs s) (k : Keeps w0 w) (hl : w0.heap.size ≤ lo) : Keeps w0 w' :=
  h.turn.keeps k fun _ ⟨_, hi⟩ => Nat.le_trans hl (h0.blkLt hi).1
/-- A block that is none of it abides. -/
theorem Goes.blk {w w' : World} {lo : Nat} {v v' : Sv} {vs vs' : List Lv} {s' : Sy} (h : Goes w lo v vs w' v' vs' s') {b : Nat} {C : Array Value} (hb : Blk w b C) (hn : ∀ i, ¬ ofKind v vs i b) : Blk w' b C := by
  have e := h.turn.block b hb.lt (fun ⟨i, hi⟩ => hn i hi)
  exact ⟨Nat.lt_of_lt_of_le hb.lt h.turn.size, fun k => (World.cell?_of_block (w := w) e).trans (hb.cells k), fun k => (World.frozen?_of_block (w := w) e).trans (hb.frozens k)⟩
theorem Goes.far {w w' : World} {lo : Nat} {v v' : Sv} {vs vs' : List Lv} {s' : Sy} (h : Goes w lo v vs w' v' vs' s') {b : Nat} (hb : b < w.heap.size) (hn : ∀ i, ¬ ofKind v vs i b) : ∀ i, ¬ ofKind v' vs' i b := by
  intro i hi
  rcases h.old i b hi with ⟨j, hj⟩ | h1
  · exact hn j hj
  · omega

/-- The variable in block ob is the system s, whose rows are one's own. -/
structure VarS (w : World) (lo ob : Nat) (v : Sv) (vs : List Lv) (s : Sy) : Prop where
  box : Blk w ob (syc s v)
  own : OwnS w lo v vs s
  lob : lo ≤ ob
  far : ∀ i, ¬ ofKind v vs i ob
theorem VarS.keeps {w w' : World} {lo ob : Nat} {v : Sv} {vs : List Lv} {s : Sy} (h : VarS w lo ob v vs s) (k : Keeps w w') : VarS w' lo ob v vs s := ⟨h.box.keeps k, h.own.keeps k, h.lob, h.far⟩
/-- A new variable. -/
theorem VarS.new {w : World} {lo : Nat} {v : Sv} {vs : List Lv} {s : Sy} (h : OwnS w lo v vs s) (hl : lo ≤ w.heap.size) : VarS (w.alloc (.cells (syc s v) 43)) lo w.heap.size v vs s :=
  ⟨Blk.new _ _ _, h.keeps ((Keeps.refl _).alloc _), hl, fun i hi => by have := (h.blkLt hi).2; omega⟩
/-- It is handed on, and what comes back is stored over it. -/
theorem VarS.put {w w' : World} {lo ob : Nat} {v v' : Sv} {vs vs' : List Lv} {s s' : Sy} (h : VarS w lo ob v vs s) (g : Goes w lo v vs w' v' vs' s') : VarS (putC w' ob 0 (syc s' v').toList) lo ob v' vs' s' := by
  have hf := g.far h.box.lt h.far
  exact ⟨(g.blk h.box h.far).putC (syc s' v').toList rfl, OwnS.farC hf _ _ g.own, h.lob, hf⟩
/-- A task of it is stored over. -/
theorem VarS.task {w : World} {lo ob : Nat} {v : Sv} {vs : List Lv} {s : Sy} (h : VarS w lo ob v vs s) {rb : Nat} (ha : v.t.a = some ⟨rb, 0, none⟩) {k : Nat} (hk : k < s.tasks.length) (x : Tsk) : VarS (putC w rb (k * 14) (tc x).toList) lo ob v vs { s with tasks := s.tasks.set k x } := by
  have ho : ofKind v vs 0 rb := by show v.t.val.ownBlock = some rb; rw [Rw.val, ha]; rfl
  have hne : rb ≠ ob := fun e => h.far 0 (by rw [← e]; exact ho)
  exact ⟨Blk.farC hne _ _ h.box, (h.own.storeT ha hk x).1, h.lob, h.far⟩
theorem VarS.taskKeeps {w0 w : World} {lo ob : Nat} {v : Sv} {vs : List Lv} {s : Sy} (h : VarS w lo ob v vs s) {rb : Nat} (ha : v.t.a = some ⟨rb, 0, none⟩) (k : Nat) (L : List Value) (k0 : Keeps w0 w) (hl : w0.heap.size ≤ lo) : Keeps w0 (putC w rb k L) := by
  have ho : ofKind v vs 0 rb := by show v.t.val.ownBlock = some rb; rw [Rw.val, ha]; rfl
  exact Keeps.putC (b := rb) (Nat.le_trans hl (h.own.blkLt ho).1) L k k0
/-- What else is stored elsewhere. -/
theorem VarS.elsewhere {w : World} {lo ob : Nat} {v : Sv} {vs : List Lv} {s : Sy} (h : VarS w lo ob v vs s) {c : Nat} (hc : ∀ i, ¬ ofKind v vs i c) (hne : c ≠ ob) (L : List Value) (k : Nat) : VarS (putC w c k L) lo ob v vs s :=
  ⟨Blk.farC hne L k h.box, OwnS.farC hc L k h.own, h.lob, h.far⟩
/-- The row of tasks has an address where it isn't empty. -/
theorem OwnS.tasksAt {w : World} {lo : Nat} {v : Sv} {vs : List Lv} {s : Sy} (h : OwnS w lo v vs s) {k : Nat} (hk : k < s.tasks.length) : ∃ rb, v.t.a = some ⟨rb, 0, none⟩ := by
  obtain ⟨b, cap, e⟩ := h.t.blk (by omega)
  simp only [Rw.val, Value.slice.injEq] at e
  exact ⟨b, e.1⟩
theorem OwnS.taskCells {w : World} {lo : Nat} {v : Sv} {vs : List Lv} {s : Sy} (h : OwnS w lo v vs s) {rb : Nat} (ha : v.t.a = some ⟨rb, 0, none⟩) {k : Nat} {t : Tsk} (ht : s.tasks[k]? = some t) : (∀ j, j < 14 → w.cell? ⟨rb, k * 14 + j, none⟩ = (tc t)[j]?) ∧ ∀ j, w.frozen? ⟨rb, j, none⟩ = false := by
  have hn := (h.t.row tc_size).1
  have hv : v.t.val = .slice (some ⟨rb, 0, none⟩) s.tasks.length v.t.cap := by rw [Rw.val, ha, hn]
  have O := h.t
  rw [hv] at O
  exact ⟨fun j hj => O.cellAt tc_size ht hj, fun j => O.frozenAt j⟩
end Go.Proofs.YtpikopdfkhagmaaGreatDoor
namespace Go.Proofs.YtpikopdfkhagmaaGreatDoor
open Go.RowKit

/-- One step more: what turned was of the system, or is newer than the call. -/
theorem Goes.step {w0 w w' : World} {lo : Nat} {v0 v v' : Sv} {vs0 vs vs' : List Lv} {s s' : Sy} (h : Goes w0 lo v0 vs0 w v vs s) (own : OwnS w' lo v' vs' s') (t : TurnsB (fun b => (∃ i, ofKind v vs i b) ∨ w0.heap.size ≤ b) w w') (old : ∀ i b, ofKind v' vs' i b → (∃ j, ofKind v vs j b) ∨ w0.heap.size ≤ b) : Goes w0 lo v0 vs0 w' v' vs' s' := by
  refine ⟨own, ⟨t.os.trans h.turn.os, t.tape.trans h.turn.tape, t.output.trans h.turn.output, Nat.le_trans h.turn.size t.size, fun b hb hn => ?_⟩, fun i b hb => ?_⟩
  · refine (t.block b (Nat.lt_of_lt_of_le hb h.turn.size) ?_).trans (h.turn.block b hb hn)
    rintro (⟨i, hi⟩ | h1)
    · rcases h.old i b hi with h1 | h1
      · exact hn h1
      · omega
    · omega
  · rcases old i b hb with ⟨j, hj⟩ | h1
    · exact h.old j b hj
    · exact .inr h1
theorem TurnsB.putC {P : Nat → Prop} {c : Nat} (hc : P c) (L : List Value) {a w : World} (k : Nat) (h : TurnsB P a w) : TurnsB P a (Go.Proofs.YtpikopdfkhagmaaGreatDoor.putC w c k L) :=
  h.trans ((TurnsB.grown (grown_putC L w k (World.grownBy.refl w (some c)))).mono fun q e => by cases e; exact hc)
theorem TurnsB.of {P : Nat → Prop} {a b : World} (k : Keeps a b) : TurnsB P a b := ⟨k.os, k.tape, k.output, k.size, fun q hq _ => Below.block k q hq⟩
/-- The variable in block ob, the system of one's own, and what has become of the one that the call began with. -/
structure VarG (w0 : World) (lo : Nat) (v0 : Sv) (vs0 : List Lv) (w : World) (ob : Nat) (v : Sv) (vs : List Lv) (s : Sy) : Prop where
  var : VarS w lo ob v vs s
  goes : Goes w0 lo v0 vs0 w v vs s
  new : w0.heap.size ≤ ob
section
variable {w0 w : World} {lo ob : Nat} {v0 v : Sv} {vs0 vs : List Lv} {s : Sy}
theorem VarG.start {w : World} {lo : Nat} {v : Sv} {vs : List Lv} {s : Sy} (h : OwnS w lo v vs s) (hl : lo ≤ w.heap.size) : VarG w lo v vs (w.alloc (.cells (syc s v) 43)) w.heap.size v vs s :=
  ⟨VarS.new h hl, (Goes.refl h).behind ((Keeps.refl _).alloc _), Nat.le_refl _⟩
theorem VarG.keeps {w' : World} (h : VarG w0 lo v0 vs0 w ob v vs s) (k : Keeps w w') : VarG w0 lo v0 vs0 w' ob v vs s := ⟨h.var.keeps k, h.goes.behind k, h.new⟩
/-- A store into a block that is newer than the call, and none of the system. -/
theorem VarG.elsewhere (h : VarG w0 lo v0 vs0 w ob v vs s) {c : Nat} (hc : ∀ i, ¬ ofKind v vs i c) (hne : c ≠ ob) (hn : w0.heap.size ≤ c) (L : List Value) (k : Nat) : VarG w0 lo v0 vs0 (putC w c k L) ob v vs s :=
  ⟨h.var.elsewhere hc hne L k, h.goes.step (OwnS.farC hc L k h.var.own) (TurnsB.putC (.inr hn) L k (TurnsB.refl _ _)) fun i _ hb => .inl ⟨i, hb⟩, h.new⟩
/-- A task is stored over. -/
theorem VarG.task (h : VarG w0 lo v0 vs0 w ob v vs s) {rb : Nat} (ha : v.t.a = some ⟨rb, 0, none⟩) {k : Nat} (hk : k < s.tasks.length) (x : Tsk) : VarG w0 lo v0 vs0 (putC w rb (k * 14) (tc x).toList) ob v vs { s with tasks := s.tasks.set k x } := by
  have ho : ofKind v vs 0 rb := by show v.t.val.ownBlock = some rb; rw [Rw.val, ha]; rfl
  exact ⟨h.var.task ha hk x, h.goes.step (h.var.task ha hk x).own (TurnsB.putC (.inl ⟨0, ho⟩) _ _ (TurnsB.refl _ _)) fun i _ hb => .inl ⟨i, hb⟩, h.new⟩
/-- A number of it is stored. -/
theorem VarG.num (h : VarG w0 lo v0 vs0 w ob v vs s) (now cpus seq missed : Int) {k : Nat} {x : Value} (e : (syc s v).setIfInBounds k x = syc { s with now := now, cpus := cpus, seq := seq, missed := missed } v) (hk : k < 9) : VarG w0 lo v0 vs0 (w.setCell ⟨ob, k, none⟩ x) ob v vs { s with now := now, cpus := cpus, seq := seq, missed := missed } := by
  have B := h.var.box.set k (by simpa using hk) x
  rw [e] at B
  have O : OwnS (w.setCell ⟨ob, k, none⟩ x) lo v vs { s with now := now, cpus := cpus, seq := seq, missed := missed } := (h.var.own.far h.var.far x).nums now cpus seq missed
  exact ⟨⟨B, O, h.var.lob, h.var.far⟩, h.goes.step O (TurnsB.putC (.inr h.new) [x] k (TurnsB.refl _ _)) fun i _ hb => .inl ⟨i, hb⟩, h.new⟩
/-- The trace has grown, and is stored. -/
theorem VarG.trace {w1 w2 : World} (h : VarG w0 lo v0 vs0 w ob v vs s) (k : Keeps w w1) {x : Rw} {xs : List Tn} (O : Own 71 3 tnc w2 lo x.val xs) (g : w1.grownBy w2 v.r.val.ownBlock) (f : ∀ q, x.val.ownBlock = some q → v.r.val.ownBlock = some q ∨ w1.heap.size ≤ q) :
    VarG w0 lo v0 vs0 (w2.setCell ⟨ob, 8, none⟩ x.val) ob { v with r := x } vs { s with trace := xs } := by
  have h1 := h.keeps k
  have hr : ∀ q, v.r.val.ownBlock = some q → ofKind v vs 4 q := fun q e => e
  have S2 : OwnS w2 lo { v with r := x } vs { s with trace := xs } := h1.var.own.setR g.size (fun b hb hn => g.block b hb (fun e => hn e.symm)) x xs O f
  have lt1 := h1.var.box.lt
  have far2 : ∀ i, ¬ ofKind { v with r := x } vs i ob := by
    intro i hi
    match i, hi with
    | 0, hi => exact h.var.far 0 hi
    | 1, hi => exact h.var.far 1 hi
    | 2, hi => exact h.var.far 2 hi
    | 3, hi => exact h.var.far 3 hi
    | 4, hi =>
      rcases f ob hi with h2 | h2
      · exact h.var.far 4 h2
      · omega
  have B2 : Blk w2 ob (syc s v) := h1.var.box.grown g (fun q e e2 => h.var.far 4 (by rw [← e2]; exact hr q e))
  have O3 : OwnS (w2.setCell ⟨ob, 8, none⟩ x.val) lo { v with r := x } vs { s with trace := xs } := S2.far far2 _
  refine ⟨⟨B2.set 8 (by simp) x.val, O3, h.var.lob, far2⟩, h1.goes.step O3 (TurnsB.putC (.inr h.new) [x.val] 8 ((TurnsB.grown g).mono fun q e => .inl ⟨4, e⟩)) fun i b hb => ?_, h.new⟩
  match i, hb with
  | 0, hb => exact .inl ⟨0, hb⟩
  | 1, hb => exact .inl ⟨1, hb⟩
  | 2, hb => exact .inl ⟨2, hb⟩
  | 3, hb => exact .inl ⟨3, hb⟩
  | 4, hb =>
    rcases f b hb with h2 | h2
    · exact .inl ⟨4, h2⟩
    · exact .inr (Nat.le_trans (Nat.le_trans h.goes.turn.size k.size) h2)
/-- The ghosts are others now, and stored. -/
theorem VarG.ghosts {w1 w2 : World} (h : VarG w0 lo v0 vs0 w ob v vs s) (k : Keeps w w1) {x : Rw} {xs : List Gh} (O : Own 129 4 ghc w2 lo x.val xs) (g : w1.grownBy w2 v.g.val.ownBlock) (f : ∀ q, x.val.ownBlock = some q → v.g.val.ownBlock = some q ∨ w1.heap.size ≤ q) :
    VarG w0 lo v0 vs0 (w2.setCell ⟨ob, 4, none⟩ x.val) ob { v with g := x } vs { s with ghosts := xs } := by
  have h1 := h.keeps k
  have hr : ∀ q, v.g.val.ownBlock = some q → ofKind v vs 2 q := fun q e => e
  have S2 : OwnS w2 lo { v with g := x } vs { s with ghosts := xs } := h1.var.own.setG g.size (fun b hb hn => g.block b hb (fun e => hn e.symm)) x xs O f
  have lt1 := h1.var.box.lt
  have far2 : ∀ i, ¬ ofKind { v with g := x } vs i ob := by
    intro i hi
    match i, hi with
    | 0, hi => exact h.var.far 0 hi
    | 1, hi => exact h.var.far 1 hi
    | 2, hi =>
      rcases f ob hi with h2 | h2
      · exact h.var.far 2 h2
      · omega
    | 3, hi => exact h.var.far 3 hi
    | 4, hi => exact h.var.far 4 hi
  have B2 : Blk w2 ob (syc s v) := h1.var.box.grown g (fun q e e2 => h.var.far 2 (by rw [← e2]; exact hr q e))
  have O3 : OwnS (w2.setCell ⟨ob, 4, none⟩ x.val) lo { v with g := x } vs { s with ghosts := xs } := S2.far far2 _
  refine ⟨⟨B2.set 4 (by simp) x.val, O3, h.var.lob, far2⟩, h1.goes.step O3 (TurnsB.putC (.inr h.new) [x.val] 4 ((TurnsB.grown g).mono fun q e => .inl ⟨2, e⟩)) fun i b hb => ?_, h.new⟩
  match i, hb with
  | 0, hb => exact .inl ⟨0, hb⟩
  | 1, hb => exact .inl ⟨1, hb⟩
  | 2, hb =>
    rcases f b hb with h2 | h2
    · exact .inl ⟨2, h2⟩
    · exact .inr (Nat.le_trans (Nat.le_trans h.goes.turn.size k.size) h2)
  | 3, hb => exact .inl ⟨3, hb⟩
  | 4, hb => exact .inl ⟨4, hb⟩
/-- The tasks are others now, and stored. -/
theorem VarG.tasks {w1 w2 : World} (h : VarG w0 lo v0 vs0 w ob v vs s) (k : Keeps w w1) {x : Rw} {xs : List Tsk} (O : Own 90 14 tc w2 lo x.val xs) (g : w1.grownBy w2 v.t.val.ownBlock) (f : ∀ q, x.val.ownBlock = some q → v.t.val.ownBlock = some q ∨ w1.heap.size ≤ q) :
    VarG w0 lo v0 vs0 (w2.setCell ⟨ob, 2, none⟩ x.val) ob { v with t := x } vs { s with tasks := xs } := by
  have h1 := h.keeps k
  have hr : ∀ q, v.t.val.ownBlock = some q → ofKind v vs 0 q := fun q e => e
  have S2 : OwnS w2 lo { v with t := x } vs { s with tasks := xs } := h1.var.own.setT g.size (fun b hb hn => g.block b hb (fun e => hn e.symm)) x xs O f
  have lt1 := h1.var.box.lt
  have far2 : ∀ i, ¬ ofKind { v with t := x } vs i ob := by
    intro i hi
    match i, hi with
    | 0, hi =>
      rcases f ob hi with h2 | h2
      · exact h.var.far 0 h2
      · omega
    | 1, hi => exact h.var.far 1 hi
    | 2, hi => exact h.var.far 2 hi
    | 3, hi => exact h.var.far 3 hi
    | 4, hi => exact h.var.far 4 hi
  have B2 : Blk w2 ob (syc s v) := h1.var.box.grown g (fun q e e2 => h.var.far 0 (by rw [← e2]; exact hr q e))
  have O3 : OwnS (w2.setCell ⟨ob, 2, none⟩ x.val) lo { v with t := x } vs { s with tasks := xs } := S2.far far2 _
  refine ⟨⟨B2.set 2 (by simp) x.val, O3, h.var.lob, far2⟩, h1.goes.step O3 (TurnsB.putC (.inr h.new) [x.val] 2 ((TurnsB.grown g).mono fun q e => .inl ⟨0, e⟩)) fun i b hb => ?_, h.new⟩
  match i, hb with
  | 0, hb =>
    rcases f b hb with h2 | h2
    · exact .inl ⟨0, h2⟩
    · exact .inr (Nat.le_trans (Nat.le_trans h.goes.turn.size k.size) h2)
  | 1, hb => exact .inl ⟨1, hb⟩
  | 2, hb => exact .inl ⟨2, hb⟩
  | 3, hb => exact .inl ⟨3, hb⟩
  | 4, hb => exact .inl ⟨4, hb⟩
/-- A floor is stored over. -/
theorem VarG.floor (h : VarG w0 lo v0 vs0 w ob v vs s) {fb : Nat} (ha : v.f.a = some ⟨fb, 0, none⟩) {k : Nat} {y : Int} (hk : s.floors[k]? = some y) (x : Int) : VarG w0 lo v0 vs0 (w.setCell ⟨fb, k, none⟩ (.int .i64 x)) ob v vs { s with floors := s.floors.set k x } := by
  have ho : ofKind v vs 3 fb := by show v.f.val.ownBlock = some fb; rw [Rw.val, ha]; rfl
  have hne : fb ≠ ob := fun e => h.var.far 3 (by rw [← e]; exact ho)
  have hn := (h.var.own.f.row ic_size).1
  have hv : v.f.val = .slice (some ⟨fb, 0, none⟩) s.floors.length v.f.cap := by rw [Rw.val, ha, hn]
  have O := h.var.own.f
  rw [hv] at O
  have O2 : OwnN (w.setCell ⟨fb, k, none⟩ (.int .i64 x)) lo v.f.val (s.floors.set k x) := by
    rw [hv]
    have := O.setAt ic_size (i := k) (j := 0) (x := y) (y := x) (u := .int .i64 x) hk (by omega) rfl
    simpa using this
  have G : w.grownBy (w.setCell ⟨fb, k, none⟩ (.int .i64 x)) (some fb) := grown_putC [.int .i64 x] w k (World.grownBy.refl w (some fb))
  have OS : OwnS (w.setCell ⟨fb, k, none⟩ (.int .i64 x)) lo v vs { s with floors := s.floors.set k x } := h.var.own.setF G.size (fun b hb hnn => G.block b hb (fun e => hnn (by cases e; exact ho))) v.f _ O2 (fun b e => .inl e)
  exact ⟨⟨h.var.box.far hne _, OS, h.var.lob, h.var.far⟩, h.goes.step OS ((TurnsB.grown G).mono fun q e => by cases e; exact .inl ⟨3, ho⟩) fun i _ hb => .inl ⟨i, hb⟩, h.new⟩
/-- It is handed on, and what comes back is stored over it. -/
theorem VarG.put {w' : World} {v' : Sv} {vs' : List Lv} {s' : Sy} (h : VarG w0 lo v0 vs0 w ob v vs s) (g : Goes w lo v vs w' v' vs' s') : VarG w0 lo v0 vs0 (putC w' ob 0 (syc s' v').toList) ob v' vs' s' := by
  have V := h.var.put g
  refine ⟨V, (h.goes.trans g).step V.own (TurnsB.putC (.inr h.new) _ 0 (TurnsB.refl _ _)) fun i _ hb => .inl ⟨i, hb⟩, h.new⟩
theorem VarG.keepsZ {z : World} {s0 : Sy} (h : VarG w0 lo v0 vs0 w ob v vs s) (h0 : OwnS w0 lo v0 vs0 s0) (k : Keeps z w0) (hl : z.heap.size ≤ lo) : Keeps z w := h.goes.keeps h0 k hl
theorem OwnS.floorsAt {w : World} {lo : Nat} {v : Sv} {vs : List Lv} {s : Sy} (h : OwnS w lo v vs s) {k : Nat} (hk : k < s.floors.length) : ∃ fb, v.f.a = some ⟨fb, 0, none⟩ := by
  obtain ⟨b, cap, e⟩ := h.f.blk (by omega)
  simp only [Rw.val, Value.slice.injEq] at e
  exact ⟨b, e.1⟩
theorem OwnS.floorCell {w : World} {lo : Nat} {v : Sv} {vs : List Lv} {s : Sy} (h : OwnS w lo v vs s) {fb : Nat} (ha : v.f.a = some ⟨fb, 0, none⟩) {k : Nat} {x : Int} (hx : s.floors[k]? = some x) : w.cell? ⟨fb, k, none⟩ = some (.int .i64 x) ∧ (∀ j, w.frozen? ⟨fb, j, none⟩ = false) ∧ fb < w.heap.size ∧ lo ≤ fb := by
  have hn := (h.f.row ic_size).1
  have hv : v.f.val = .slice (some ⟨fb, 0, none⟩) s.floors.length v.f.cap := by rw [Rw.val, ha, hn]
  have O := h.f
  rw [hv] at O
  have h1 := O.cellAt ic_size (i := k) (k := 0) hx (by omega)
  have h2 := O.ltb fb rfl
  exact ⟨by simpa using h1, fun j => O.frozenAt j, h2.2, h2.1⟩
end
end Go.Proofs.YtpikopdfkhagmaaGreatDoor
namespace Go.Proofs.YtpikopdfkhagmaaGreatDoor
open Go.RowKit
attribute [local go_sem] Keeps.refl Keeps.alloc Keeps.drew Keeps.drewN

theorem OwnS.nothing (w : World) (lo : Nat) : OwnS w lo Sv.zero [] Sy.zero := by
  refine ⟨World.ownsRow_nil _ _ _ _, Mine.none _ _ _ _ (World.ownsRow_nil _ _ _ _) (fun b e => by simp [Value.ownBlock] at e), World.ownsRow_nil _ _ _ _, World.ownsRow_nil _ _ _ _, World.ownsRow_nil _ _ _ _, ?_⟩
  intro i j b hi hj
  match i, hi with
  | 0, hi => simp [ofKind, Value.ownBlock] at hi
  | 1, hi => simp [ofKind, Value.ownBlock] at hi
  | 2, hi => simp [ofKind, Value.ownBlock] at hi
  | 3, hi => simp [ofKind, Value.ownBlock] at hi
  | 4, hi => simp [ofKind, Value.ownBlock] at hi
/-- The rows of a new system. -/
abbrev newV (c b1 b3 : Nat) : Sv := ⟨⟨none, 0, 0⟩, ⟨some ⟨b1, 0, none⟩, 5, 5⟩, ⟨none, 0, 0⟩, ⟨some ⟨b3, 0, none⟩, c, c⟩, ⟨none, 0, 0⟩⟩
theorem newS_is {c : Nat} (h : inB (c : Int) 1 4 = true) : newS c = { Sy.zero with cpus := (c : Int), locks := List.replicate 5 ⟨0, []⟩, floors := List.replicate c 0 } := by
  unfold newS
  rw [h, if_pos rfl, Int.toNat_natCast]
theorem new_own {W : World} {lo c b1 b3 : Nat} (h : inB (c : Int) 1 4 = true) (L : Mine W lo W.heap.size (.slice (some ⟨b1, 0, none⟩) 5 5) (List.replicate 5 Lv.zero) (List.replicate 5 ⟨0, []⟩)) (F : OwnN W lo (.slice (some ⟨b3, 0, none⟩) c c) (List.replicate c 0)) (hne : b1 ≠ b3) :
    OwnS W lo (newV c b1 b3) (List.replicate 5 Lv.zero) (newS c) := by
  rw [newS_is h]
  refine ⟨World.ownsRow_nil _ _ _ _, L, World.ownsRow_nil _ _ _ _, F, World.ownsRow_nil _ _ _ _, ?_⟩
  have key : ∀ i b, ofKind (newV c b1 b3) (List.replicate 5 Lv.zero) i b → (i = 1 ∧ b = b1) ∨ (i = 3 ∧ b = b3) := by
    intro i b hi
    match i, hi with
    | 0, hi => simp [ofKind, Value.ownBlock] at hi
    | 1, hi =>
      rcases hi with hi | ⟨x, hx, hi⟩
      · simp [Value.ownBlock] at hi; exact .inl ⟨rfl, hi.symm⟩
      · have := List.eq_of_mem_replicate hx
        subst this
        simp [Value.ownBlock] at hi
    | 2, hi => simp [ofKind, Value.ownBlock] at hi
    | 3, hi => simp [ofKind, Value.ownBlock] at hi; exact .inr ⟨rfl, hi.symm⟩
    | 4, hi => simp [ofKind, Value.ownBlock] at hi
  intro i j b hi hj
  have := key i b hi
  have := key j b hj
  omega
theorem made_ints (c : Nat) : madeCells #[.int .i64 0] c = madeCells (ic 0) (c * 1) := by rw [Nat.mul_one]
set_option maxRecDepth 100000 in
set_option maxHeartbeats 4000000 in
theorem specSysNew_any (cpus : Int) (w : World) :
    Calls Tryz.prog 46 #[.int .i64 cpus] w fun e w' => ∃ v vs, e = .returned (.tuple #[.agg (syc (newS cpus) v), .bool (inB cpus 1 4)]) ∧ OwnS w' w.heap.size v vs (newS cpus) ∧ Keeps w w' := by
  cases hc : inB cpus 1 4
  · have Hn : Hid (newS cpus = Sy.zero) := by show _ = _; unfold newS; rw [hc]; rfl
    go_enter Tryz.func46, Tryz.ntmps46
    go_wp2_with (go_at_call 29; refine (l1In_any _ _ _ _).mono ?_; rintro e w' ⟨rfl, hw'⟩; have hw2 := hw'.symm; subst hw2; rw [hc])
    exact bodyPost_ret (v := .tuple #[.agg (syc Sy.zero Sv.zero), .bool false]) (by simp [results, Tryz.results46, go_sem, Sy.zero]) rfl ⟨Sv.zero, [], by rw [Hn.out], by rw [Hn.out]; exact OwnS.nothing _ _, (Keeps.refl w).alloc _⟩
  · obtain ⟨c1, c2⟩ := inB_iff.1 hc
    obtain ⟨c, rfl⟩ : ∃ c : Nat, cpus = (c : Int) := ⟨cpus.toNat, by omega⟩
    have hm1 : ∀ w : World, (Instr.makeSlice 39 (.int .i64 5) (.int .i64 5)).run Tryz.prog w = .ok (.slice (some ⟨w.heap.size, 0, none⟩) 5 5) (w.alloc (.cells (madeCells #[.int .i64 0, .slice none 0 0] 10) 92)) := by
      have := run_make_zero (P := Tryz.prog) 39 92 (.agg #[.int .i64 0, .slice none 0 0]) 2 32 Tryz.underlying39 (by kernel_rfl) 5 (by decide) (by decide)
      simpa [Value.cells] using this
    have hm2 : ∀ w : World, (Instr.makeSlice 41 (.int .i64 (c : Int)) (.int .i64 (c : Int))).run Tryz.prog w = .ok (.slice (some ⟨w.heap.size, 0, none⟩) c c) (w.alloc (.cells (madeCells #[.int .i64 0] c) 3)) := by
      have := run_make_zero (P := Tryz.prog) 41 3 (.int .i64 0) 1 8 Tryz.underlying41 (by kernel_rfl) c (by omega) (by omega)
      simpa [Value.cells] using this
    go_enter Tryz.func46, Tryz.ntmps46
    go_wp2_with (go_at_call 29; refine (l1In_any _ _ _ _).mono ?_; rintro e w' ⟨rfl, hw'⟩; have hw2 := hw'.symm; subst hw2; rw [hc])
    go_region
    · have L : Mine ((((w.alloc (.cells #[.int .i64 0, .int .i64 (c : Int), .slice none 0 0, .slice (some ⟨w.heap.size + 1, 0, none⟩) 5 5, .slice none 0 0, .slice (some ⟨w.heap.size + 1 + 1, 0, none⟩) c c, .int .i64 0, .int .i64 0, .slice none 0 0] 43)).alloc (.cells (madeCells #[.int .i64 0, .slice none 0 0] 10) 92)).alloc (.cells (madeCells #[.int .i64 0] c) 3)).drew) w.heap.size ((((w.alloc (.cells #[.int .i64 0, .int .i64 (c : Int), .slice none 0 0, .slice (some ⟨w.heap.size + 1, 0, none⟩) 5 5, .slice none 0 0, .slice (some ⟨w.heap.size + 1 + 1, 0, none⟩) c c, .int .i64 0, .int .i64 0, .slice none 0 0] 43)).alloc (.cells (madeCells #[.int .i64 0, .slice none 0 0] 10) 92)).alloc (.cells (madeCells #[.int .i64 0] c) 3)).drew).heap.size (.slice (some ⟨w.heap.size + 1, 0, none⟩) 5 5) (List.replicate 5 Lv.zero) (List.replicate 5 ⟨0, []⟩) := by
        have m := Mine.zero (w.alloc (.cells #[.int .i64 0, .int .i64 (c : Int), .slice none 0 0, .slice (some ⟨w.heap.size + 1, 0, none⟩) 5 5, .slice none 0 0, .slice (some ⟨w.heap.size + 1 + 1, 0, none⟩) c c, .int .i64 0, .int .i64 0, .slice none 0 0] 43)) 5 (by decide)
        simp only [World.size_alloc] at m
        exact (m.keeps ((Keeps.refl _).alloc _).drew).widen (by omega) (by simp)
      have F : OwnN ((((w.alloc (.cells #[.int .i64 0, .int .i64 (c : Int), .slice none 0 0, .slice (some ⟨w.heap.size + 1, 0, none⟩) 5 5, .slice none 0 0, .slice (some ⟨w.heap.size + 1 + 1, 0, none⟩) c c, .int .i64 0, .int .i64 0, .slice none 0 0] 43)).alloc (.cells (madeCells #[.int .i64 0, .slice none 0 0] 10) 92)).alloc (.cells (madeCells #[.int .i64 0] c) 3)).drew) w.heap.size (.slice (some ⟨w.heap.size + 1 + 1, 0, none⟩) c c) (List.replicate c 0) := by
        have f := Own.zeros (e := 3) ic_size (by decide) (0 : Int) ((w.alloc (.cells #[.int .i64 0, .int .i64 (c : Int), .slice none 0 0, .slice (some ⟨w.heap.size + 1, 0, none⟩) 5 5, .slice none 0 0, .slice (some ⟨w.heap.size + 1 + 1, 0, none⟩) c c, .int .i64 0, .int .i64 0, .slice none 0 0] 43)).alloc (.cells (madeCells #[.int .i64 0, .slice none 0 0] 10) 92)) c (by unfold maxLen; omega)
        rw [← made_ints] at f
        simp only [World.size_alloc] at f
        exact (f.keeps (Keeps.refl _).drew).base (by omega)
      have D : Blk ((((w.alloc (.cells #[.int .i64 0, .int .i64 (c : Int), .slice none 0 0, .slice (some ⟨w.heap.size + 1, 0, none⟩) 5 5, .slice none 0 0, .slice (some ⟨w.heap.size + 1 + 1, 0, none⟩) c c, .int .i64 0, .int .i64 0, .slice none 0 0] 43)).alloc (.cells (madeCells #[.int .i64 0, .slice none 0 0] 10) 92)).alloc (.cells (madeCells #[.int .i64 0] c) 3)).drew) w.heap.size #[.int .i64 0, .int .i64 (c : Int), .slice none 0 0, .slice (some ⟨w.heap.size + 1, 0, none⟩) 5 5, .slice none 0 0, .slice (some ⟨w.heap.size + 1 + 1, 0, none⟩) c c, .int .i64 0, .int .i64 0, .slice none 0 0] := (((Blk.new _ _ _).alloc _).alloc _).keeps (Keeps.refl _).drew
      have K : Keeps w ((((w.alloc (.cells #[.int .i64 0, .int .i64 (c : Int), .slice none 0 0, .slice (some ⟨w.heap.size + 1, 0, none⟩) 5 5, .slice none 0 0, .slice (some ⟨w.heap.size + 1 + 1, 0, none⟩) c c, .int .i64 0, .int .i64 0, .slice none 0 0] 43)).alloc (.cells (madeCells #[.int .i64 0, .slice none 0 0] 10) 92)).alloc (.cells (madeCells #[.int .i64 0] c) 3)).drew) := ((((Keeps.refl w).alloc _).alloc _).alloc _).drew
      have S0 := new_own hc L F (by omega)
      have e0 : Hid (newS c = { Sy.zero with cpus := (c : Int), locks := List.replicate 5 ⟨0, []⟩, floors := List.replicate c 0 }) := newS_is hc
      generalize (((w.alloc (.cells #[.int .i64 0, .int .i64 (c : Int), .slice none 0 0, .slice (some ⟨w.heap.size + 1, 0, none⟩) 5 5, .slice none 0 0, .slice (some ⟨w.heap.size + 1 + 1, 0, none⟩) c c, .int .i64 0, .int .i64 0, .slice none 0 0] 43)).alloc (.cells (madeCells #[.int .i64 0, .slice none 0 0] 10) 92)).alloc (.cells (madeCells #[.int .i64 0] c) 3)).drew = Z at *
      go_wp2
      exact bodyPost_ret (v := .tuple #[.agg (syc (newS c) (newV c (w.heap.size + 1) (w.heap.size + 1 + 1))), .bool true]) (by rw [e0.out]; simp [results, Tryz.results46, go_sem, D.cells, Sy.zero]) rfl ⟨_, rfl, ⟨_, S0⟩, K⟩
    · have L : Mine ((((w.alloc (.cells #[.int .i64 0, .int .i64 (c : Int), .slice none 0 0, .slice (some ⟨w.heap.size + 1 + 1, 0, none⟩) 5 5, .slice none 0 0, .slice (some ⟨w.heap.size + 1, 0, none⟩) c c, .int .i64 0, .int .i64 0, .slice none 0 0] 43)).alloc (.cells (madeCells #[.int .i64 0] c) 3)).alloc (.cells (madeCells #[.int .i64 0, .slice none 0 0] 10) 92)).drew) w.heap.size ((((w.alloc (.cells #[.int .i64 0, .int .i64 (c : Int), .slice none 0 0, .slice (some ⟨w.heap.size + 1 + 1, 0, none⟩) 5 5, .slice none 0 0, .slice (some ⟨w.heap.size + 1, 0, none⟩) c c, .int .i64 0, .int .i64 0, .slice none 0 0] 43)).alloc (.cells (madeCells #[.int .i64 0] c) 3)).alloc (.cells (madeCells #[.int .i64 0, .slice none 0 0] 10) 92)).drew).heap.size (.slice (some ⟨w.heap.size + 1 + 1, 0, none⟩) 5 5) (List.replicate 5 Lv.zero) (List.replicate 5 ⟨0, []⟩) := by
        have m := Mine.zero ((w.alloc (.cells #[.int .i64 0, .int .i64 (c : Int), .slice none 0 0, .slice (some ⟨w.heap.size + 1 + 1, 0, none⟩) 5 5, .slice none 0 0, .slice (some ⟨w.heap.size + 1, 0, none⟩) c c, .int .i64 0, .int .i64 0, .slice none 0 0] 43)).alloc (.cells (madeCells #[.int .i64 0] c) 3)) 5 (by decide)
        simp only [World.size_alloc] at m
        exact (m.keeps (Keeps.refl _).drew).widen (by omega) (by simp)
      have F : OwnN ((((w.alloc (.cells #[.int .i64 0, .int .i64 (c : Int), .slice none 0 0, .slice (some ⟨w.heap.size + 1 + 1, 0, none⟩) 5 5, .slice none 0 0, .slice (some ⟨w.heap.size + 1, 0, none⟩) c c, .int .i64 0, .int .i64 0, .slice none 0 0] 43)).alloc (.cells (madeCells #[.int .i64 0] c) 3)).alloc (.cells (madeCells #[.int .i64 0, .slice none 0 0] 10) 92)).drew) w.heap.size (.slice (some ⟨w.heap.size + 1, 0, none⟩) c c) (List.replicate c 0) := by
        have f := Own.zeros (e := 3) ic_size (by decide) (0 : Int) (w.alloc (.cells #[.int .i64 0, .int .i64 (c : Int), .slice none 0 0, .slice (some ⟨w.heap.size + 1 + 1, 0, none⟩) 5 5, .slice none 0 0, .slice (some ⟨w.heap.size + 1, 0, none⟩) c c, .int .i64 0, .int .i64 0, .slice none 0 0] 43)) c (by unfold maxLen; omega)
        rw [← made_ints] at f
        simp only [World.size_alloc] at f
        exact (f.keeps ((Keeps.refl _).alloc _).drew).base (by omega)
      have D : Blk ((((w.alloc (.cells #[.int .i64 0, .int .i64 (c : Int), .slice none 0 0, .slice (some ⟨w.heap.size + 1 + 1, 0, none⟩) 5 5, .slice none 0 0, .slice (some ⟨w.heap.size + 1, 0, none⟩) c c, .int .i64 0, .int .i64 0, .slice none 0 0] 43)).alloc (.cells (madeCells #[.int .i64 0] c) 3)).alloc (.cells (madeCells #[.int .i64 0, .slice none 0 0] 10) 92)).drew) w.heap.size #[.int .i64 0, .int .i64 (c : Int), .slice none 0 0, .slice (some ⟨w.heap.size + 1 + 1, 0, none⟩) 5 5, .slice none 0 0, .slice (some ⟨w.heap.size + 1, 0, none⟩) c c, .int .i64 0, .int .i64 0, .slice none 0 0] := (((Blk.new _ _ _).alloc _).alloc _).keeps (Keeps.refl _).drew
      have K : Keeps w ((((w.alloc (.cells #[.int .i64 0, .int .i64 (c : Int), .slice none 0 0, .slice (some ⟨w.heap.size + 1 + 1, 0, none⟩) 5 5, .slice none 0 0, .slice (some ⟨w.heap.size + 1, 0, none⟩) c c, .int .i64 0, .int .i64 0, .slice none 0 0] 43)).alloc (.cells (madeCells #[.int .i64 0] c) 3)).alloc (.cells (madeCells #[.int .i64 0, .slice none 0 0] 10) 92)).drew) := ((((Keeps.refl w).alloc _).alloc _).alloc _).drew
      have S0 := new_own hc L F (by omega)
      have e0 : Hid (newS c = { Sy.zero with cpus := (c : Int), locks := List.replicate 5 ⟨0, []⟩, floors := List.replicate c 0 }) := newS_is hc
      generalize (((w.alloc (.cells #[.int .i64 0, .int .i64 (c : Int), .slice none 0 0, .slice (some ⟨w.heap.size + 1 + 1, 0, none⟩) 5 5, .slice none 0 0, .slice (some ⟨w.heap.size + 1, 0, none⟩) c c, .int .i64 0, .int .i64 0, .slice none 0 0] 43)).alloc (.cells (madeCells #[.int .i64 0] c) 3)).alloc (.cells (madeCells #[.int .i64 0, .slice none 0 0] 10) 92)).drew = Z at *
      go_wp2
      exact bodyPost_ret (v := .tuple #[.agg (syc (newS c) (newV c (w.heap.size + 1 + 1) (w.heap.size + 1))), .bool true]) (by rw [e0.out]; simp [results, Tryz.results46, go_sem, D.cells, Sy.zero]) rfl ⟨_, rfl, ⟨_, S0⟩, K⟩
end Go.Proofs.YtpikopdfkhagmaaGreatDoor
