/-
  The walk of FnExactSharesOn, over a contract of the program's SharesOn.
  Ticks, as plain functions: what they leave as it was.
  A system of one's own in a variable, and what it was when the call began: each store, and what it leaves.
  Ticks: who is idle, and who is woken.
-/
import Derived.Test.YthobpahnmmdbiaaGreatDoorGSys4
import Derived.Test.YthobpahnmmdbiaaGreatDoorGPure2
import Derived.Test.YthobpahnmmdbiaaGreatDoorGPick1
import Derived.Test.YthobpahnmmdbiaaGreatDoorGDff1
import Derived.Test.YthobpahnmmdbiaaGreatDoorGBase2
import Derived.Deep.Cut
namespace Go.Proofs.YthobpahnmmdbiaaGreatDoor
open Go.RowKit
attribute [local go_sem] Keeps.refl Keeps.alloc Keeps.drew Keeps.drewN

def SaysSharesOn : Prop := ∀ (w : World) (v : Sv) (s : Sy) (cpu : Int), SysOn w v s → Calls Tryz.prog 155 #[.agg (syc s v), .int .i64 cpu] w fun e w' => ∃ u, e = .returned u ∧ OwnP w' w.heap.size u (sharesL s cpu) ∧ Keeps w w'

end Go.Proofs.YthobpahnmmdbiaaGreatDoor
namespace Go.Proofs.YthobpahnmmdbiaaGreatDoor
open Go.RowKit

end Go.Proofs.YthobpahnmmdbiaaGreatDoor
namespace Go.Proofs.YthobpahnmmdbiaaGreatDoor
open Go.RowKit

/-- One step more: what turned was of the system, or is newer than the call. -/
theorem Goes.step {w0 w w' : World} {lo : Nat} {v0 v v' : Sv} {vs0 vs vs' : List Lv} {s s' : Sy} (h : Goes w0 lo v0 vs0 w v vs s) (own : OwnS w' lo v' vs' s') (t : TurnsB (fun b => (∃ i, ofKind v vs i b) ∨ w0.heap.size ≤ b) w w') (old : ∀ i b, ofKind v' vs' i b → (∃ j, ofKind v vs j b) ∨ w0.heap.size ≤ b) : Goes w0 lo v0 vs0 w' v' vs' s' := by
  refine ⟨own, ⟨t.os.trans h.turn.os, t.tape.trans h.turn.tape, t.output.trans h.turn.output, Nat.le_trans h.turn.size t.size, fun b hb hn => ?_⟩, fun i b hb => ?_⟩
  · refine (t.block b (Nat.lt_of_lt_of_le hb h.turn.size) ?_).trans (h.turn.block b hb hn)
    rintro (⟨i, hi⟩ | h1)
    · rcases h.old i b hi with h1 | h1
      · exact hn h1
      · omega
    · omega
  · rcases old i b hb with ⟨j, hj⟩ | h1
    · exact h.old j b hj
    · exact .inr h1
theorem TurnsB.putC {P : Nat → Prop} {c : Nat} (hc : P c) (L : List Value) {a w : World} (k : Nat) (h : TurnsB P a w) : TurnsB P a (Go.Proofs.YthobpahnmmdbiaaGreatDoor.putC w c k L) :=
  h.trans ((TurnsB.grown (grown_putC L w k (World.grownBy.refl w (some c)))).mono fun q e => by cases e; exact hc)
theorem TurnsB.of {P : Nat → Prop} {a b : World} (k : Keeps a b) : TurnsB P a b := ⟨k.os, k.tape, k.output, k.size, fun q hq _ => Below.block k q hq⟩
/-- The variable in block ob, the system of one's own, and what has become of the one that the call began with. -/
structure VarG (w0 : World) (lo : Nat) (v0 : Sv) (vs0 : List Lv) (w : World) (ob : Nat) (v : Sv) (vs : List Lv) (s : Sy) : Prop where
  var : VarS w lo ob v vs s
  goes : Goes w0 lo v0 vs0 w v vs s
  new : w0.heap.size ≤ ob
section
variable {w0 w : World} {lo ob : Nat} {v0 v : Sv} {vs0 vs : List Lv} {s : Sy}
theorem VarG.start {w : World} {lo : Nat} {v : Sv} {vs : List Lv} {s : Sy} (h : OwnS w lo v vs s) (hl : lo ≤ w.heap.size) : VarG w lo v vs (w.alloc (.cells (syc s v) 30)) w.heap.size v vs s :=
  ⟨VarS.new h hl, (Goes.refl h).behind ((Keeps.refl _).alloc _), Nat.le_refl _⟩
theorem VarG.keeps {w' : World} (h : VarG w0 lo v0 vs0 w ob v vs s) (k : Keeps w w') : VarG w0 lo v0 vs0 w' ob v vs s := ⟨h.var.keeps k, h.goes.behind k, h.new⟩
/-- A task is stored over. -/
theorem VarG.task (h : VarG w0 lo v0 vs0 w ob v vs s) {rb : Nat} (ha : v.t.a = some ⟨rb, 0, none⟩) {k : Nat} (hk : k < s.tasks.length) (x : Tsk) : VarG w0 lo v0 vs0 (putC w rb (k * 14) (tc x).toList) ob v vs { s with tasks := s.tasks.set k x } := by
  have ho : ofKind v vs 0 rb := by show v.t.val.ownBlock = some rb; rw [Rw.val, ha]; rfl
  exact ⟨h.var.task ha hk x, h.goes.step (h.var.task ha hk x).own (TurnsB.putC (.inl ⟨0, ho⟩) _ _ (TurnsB.refl _ _)) fun i _ hb => .inl ⟨i, hb⟩, h.new⟩
/-- The trace has grown, and is stored. -/
theorem VarG.trace {w1 w2 : World} (h : VarG w0 lo v0 vs0 w ob v vs s) (k : Keeps w w1) {x : Rw} {xs : List Tn} (O : Own 44 3 tnc w2 lo x.val xs) (g : w1.grownBy w2 v.r.val.ownBlock) (f : ∀ q, x.val.ownBlock = some q → v.r.val.ownBlock = some q ∨ w1.heap.size ≤ q) :
    VarG w0 lo v0 vs0 (w2.setCell ⟨ob, 8, none⟩ x.val) ob { v with r := x } vs { s with trace := xs } := by
  have h1 := h.keeps k
  have hr : ∀ q, v.r.val.ownBlock = some q → ofKind v vs 4 q := fun q e => e
  have S2 : OwnS w2 lo { v with r := x } vs { s with trace := xs } := h1.var.own.setR g.size (fun b hb hn => g.block b hb (fun e => hn e.symm)) x xs O f
  have lt1 := h1.var.box.lt
  have far2 : ∀ i, ¬ ofKind { v with r := x } vs i ob := by
    intro i hi
    match i, hi with
    | 0, hi => exact h.var.far 0 hi
    | 1, hi => exact h.var.far 1 hi
    | 2, hi => exact h.var.far 2 hi
    | 3, hi => exact h.var.far 3 hi
    | 4, hi =>
      rcases f ob hi with h2 | h2
      · exact h.var.far 4 h2
      · omega
  have B2 : Blk w2 ob (syc s v) := h1.var.box.grown g (fun q e e2 => h.var.far 4 (by rw [← e2]; exact hr q e))
  have O3 : OwnS (w2.setCell ⟨ob, 8, none⟩ x.val) lo { v with r := x } vs { s with trace := xs } := S2.far far2 _
  refine ⟨⟨B2.set 8 (by simp) x.val, O3, h.var.lob, far2⟩, h1.goes.step O3 (TurnsB.putC (.inr h.new) [x.val] 8 ((TurnsB.grown g).mono fun q e => .inl ⟨4, e⟩)) fun i b hb => ?_, h.new⟩
  match i, hb with
  | 0, hb => exact .inl ⟨0, hb⟩
  | 1, hb => exact .inl ⟨1, hb⟩
  | 2, hb => exact .inl ⟨2, hb⟩
  | 3, hb => exact .inl ⟨3, hb⟩
  | 4, hb =>
    rcases f b hb with h2 | h2
    · exact .inl ⟨4, h2⟩
    · exact .inr (Nat.le_trans (Nat.le_trans h.goes.turn.size k.size) h2)
/-- The ghosts are others now, and stored. -/
theorem VarG.ghosts {w1 w2 : World} (h : VarG w0 lo v0 vs0 w ob v vs s) (k : Keeps w w1) {x : Rw} {xs : List Gh} (O : Own 96 4 ghc w2 lo x.val xs) (g : w1.grownBy w2 v.g.val.ownBlock) (f : ∀ q, x.val.ownBlock = some q → v.g.val.ownBlock = some q ∨ w1.heap.size ≤ q) :
    VarG w0 lo v0 vs0 (w2.setCell ⟨ob, 4, none⟩ x.val) ob { v with g := x } vs { s with ghosts := xs } := by
  have h1 := h.keeps k
  have hr : ∀ q, v.g.val.ownBlock = some q → ofKind v vs 2 q := fun q e => e
  have S2 : OwnS w2 lo { v with g := x } vs { s with ghosts := xs } := h1.var.own.setG g.size (fun b hb hn => g.block b hb (fun e => hn e.symm)) x xs O f
  have lt1 := h1.var.box.lt
  have far2 : ∀ i, ¬ ofKind { v with g := x } vs i ob := by
    intro i hi
    match i, hi with
    | 0, hi => exact h.var.far 0 hi
    | 1, hi => exact h.var.far 1 hi
    | 2, hi =>
      rcases f ob hi with h2 | h2
      · exact h.var.far 2 h2
      · omega
    | 3, hi => exact h.var.far 3 hi
    | 4, hi => exact h.var.far 4 hi
  have B2 : Blk w2 ob (syc s v) := h1.var.box.grown g (fun q e e2 => h.var.far 2 (by rw [← e2]; exact hr q e))
  have O3 : OwnS (w2.setCell ⟨ob, 4, none⟩ x.val) lo { v with g := x } vs { s with ghosts := xs } := S2.far far2 _
  refine ⟨⟨B2.set 4 (by simp) x.val, O3, h.var.lob, far2⟩, h1.goes.step O3 (TurnsB.putC (.inr h.new) [x.val] 4 ((TurnsB.grown g).mono fun q e => .inl ⟨2, e⟩)) fun i b hb => ?_, h.new⟩
  match i, hb with
  | 0, hb => exact .inl ⟨0, hb⟩
  | 1, hb => exact .inl ⟨1, hb⟩
  | 2, hb =>
    rcases f b hb with h2 | h2
    · exact .inl ⟨2, h2⟩
    · exact .inr (Nat.le_trans (Nat.le_trans h.goes.turn.size k.size) h2)
  | 3, hb => exact .inl ⟨3, hb⟩
  | 4, hb => exact .inl ⟨4, hb⟩
/-- The tasks are others now, and stored. -/
theorem VarG.tasks {w1 w2 : World} (h : VarG w0 lo v0 vs0 w ob v vs s) (k : Keeps w w1) {x : Rw} {xs : List Tsk} (O : Own 46 14 tc w2 lo x.val xs) (g : w1.grownBy w2 v.t.val.ownBlock) (f : ∀ q, x.val.ownBlock = some q → v.t.val.ownBlock = some q ∨ w1.heap.size ≤ q) :
    VarG w0 lo v0 vs0 (w2.setCell ⟨ob, 2, none⟩ x.val) ob { v with t := x } vs { s with tasks := xs } := by
  have h1 := h.keeps k
  have hr : ∀ q, v.t.val.ownBlock = some q → ofKind v vs 0 q := fun q e => e
  have S2 : OwnS w2 lo { v with t := x } vs { s with tasks := xs } := h1.var.own.setT g.size (fun b hb hn => g.block b hb (fun e => hn e.symm)) x xs O f
  have lt1 := h1.var.box.lt
  have far2 : ∀ i, ¬ ofKind { v with t := x } vs i ob := by
    intro i hi
    match i, hi with
    | 0, hi =>
      rcases f ob hi with h2 | h2
      · exact h.var.far 0 h2
      · omega
    | 1, hi => exact h.var.far 1 hi
    | 2, hi => exact h.var.far 2 hi
    | 3, hi => exact h.var.far 3 hi
    | 4, hi => exact h.var.far 4 hi
  have B2 : Blk w2 ob (syc s v) := h1.var.box.grown g (fun q e e2 => h.var.far 0 (by rw [← e2]; exact hr q e))
  have O3 : OwnS (w2.setCell ⟨ob, 2, none⟩ x.val) lo { v with t := x } vs { s with tasks := xs } := S2.far far2 _
  refine ⟨⟨B2.set 2 (by simp) x.val, O3, h.var.lob, far2⟩, h1.goes.step O3 (TurnsB.putC (.inr h.new) [x.val] 2 ((TurnsB.grown g).mono fun q e => .inl ⟨0, e⟩)) fun i b hb => ?_, h.new⟩
  match i, hb with
  | 0, hb =>
    rcases f b hb with h2 | h2
    · exact .inl ⟨0, h2⟩
    · exact .inr (Nat.le_trans (Nat.le_trans h.goes.turn.size k.size) h2)
  | 1, hb => exact .inl ⟨1, hb⟩
  | 2, hb => exact .inl ⟨2, hb⟩
  | 3, hb => exact .inl ⟨3, hb⟩
  | 4, hb => exact .inl ⟨4, hb⟩
/-- A floor is stored over. -/
theorem VarG.floor (h : VarG w0 lo v0 vs0 w ob v vs s) {fb : Nat} (ha : v.f.a = some ⟨fb, 0, none⟩) {k : Nat} {y : Int} (hk : s.floors[k]? = some y) (x : Int) : VarG w0 lo v0 vs0 (w.setCell ⟨fb, k, none⟩ (.int .i64 x)) ob v vs { s with floors := s.floors.set k x } := by
  have ho : ofKind v vs 3 fb := by show v.f.val.ownBlock = some fb; rw [Rw.val, ha]; rfl
  have hne : fb ≠ ob := fun e => h.var.far 3 (by rw [← e]; exact ho)
  have hn := (h.var.own.f.row ic_size).1
  have hv : v.f.val = .slice (some ⟨fb, 0, none⟩) s.floors.length v.f.cap := by rw [Rw.val, ha, hn]
  have O := h.var.own.f
  rw [hv] at O
  have O2 : OwnN (w.setCell ⟨fb, k, none⟩ (.int .i64 x)) lo v.f.val (s.floors.set k x) := by
    rw [hv]
    have := O.setAt ic_size (i := k) (j := 0) (x := y) (y := x) (u := .int .i64 x) hk (by omega) rfl
    simpa using this
  have G : w.grownBy (w.setCell ⟨fb, k, none⟩ (.int .i64 x)) (some fb) := grown_putC [.int .i64 x] w k (World.grownBy.refl w (some fb))
  have OS : OwnS (w.setCell ⟨fb, k, none⟩ (.int .i64 x)) lo v vs { s with floors := s.floors.set k x } := h.var.own.setF G.size (fun b hb hnn => G.block b hb (fun e => hnn (by cases e; exact ho))) v.f _ O2 (fun b e => .inl e)
  exact ⟨⟨h.var.box.far hne _, OS, h.var.lob, h.var.far⟩, h.goes.step OS ((TurnsB.grown G).mono fun q e => by cases e; exact .inl ⟨3, ho⟩) fun i _ hb => .inl ⟨i, hb⟩, h.new⟩
/-- It is handed on, and what comes back is stored over it. -/
theorem VarG.put {w' : World} {v' : Sv} {vs' : List Lv} {s' : Sy} (h : VarG w0 lo v0 vs0 w ob v vs s) (g : Goes w lo v vs w' v' vs' s') : VarG w0 lo v0 vs0 (putC w' ob 0 (syc s' v').toList) ob v' vs' s' := by
  have V := h.var.put g
  refine ⟨V, (h.goes.trans g).step V.own (TurnsB.putC (.inr h.new) _ 0 (TurnsB.refl _ _)) fun i _ hb => .inl ⟨i, hb⟩, h.new⟩
end
end Go.Proofs.YthobpahnmmdbiaaGreatDoor
namespace Go.Proofs.YthobpahnmmdbiaaGreatDoor
open Go.RowKit
attribute [local go_sem] Keeps.refl Keeps.alloc Keeps.drew Keeps.drewN

/-- The idle mark of a task is written. -/
theorem Blk.idle {w : World} {b : Nat} {t : Tsk} (h : Blk w b (tc t)) (c : Bool) : Blk (w.setCell ⟨b, 4, none⟩ (.bool c)) b (tc { t with idle := c }) := h.set 4 (by simp) _
end Go.Proofs.YthobpahnmmdbiaaGreatDoor
