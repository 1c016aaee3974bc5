/-
  The system: the laws' own copy of it. The system: two that
-/
import Derived.Test.YthpdlbcdbncnhaaGreatDoorGSys2
import Derived.Test.YthpdlbcdbncnhaaGreatDoorGLock3
import Derived.Test.YthpdlbcdbncnhaaGreatDoorGTask3
namespace Go.Proofs.YthpdlbcdbncnhaaGreatDoor
open Go.RowKit
attribute [local go_sem] Keeps.refl Keeps.alloc Keeps.drew Keeps.drewN
theorem qaL {X w' : World} {b k : Nat} {C : Array Value} (h : Keeps X w') (B : Blk X b C) (hk : k < C.size) (u : Value) : Blk w' b C /\ KeepsBut b X (w'.setCell ⟨b, k, none⟩ u) /\ Blk (w'.setCell ⟨b, k, none⟩ u) b (C.setIfInBounds k u) :=
 ⟨B.keeps h, (KeepsBut.of h).setCell k u, (B.keeps h).set k hk u⟩
theorem qd5 {w : World} {b : Nat} : ∀ (L : List Value) (x : World) (k : Nat), w.grownBy x (some b) -> w.grownBy (putC x b k L) (some b)
 | [], _, _, h => h
 | v :: r, x, k, h => qd5 r _ (k + 1) ⟨h.os, h.tape, h.output, Nat.le_trans h.size (by simp), fun q hq hne => (qbe (by intro e; subst e; exact hne rfl)).trans (h.block q hq hne)⟩
structure TurnsB (P : Nat -> Prop) (w w' : World) : Prop where
 os : w'.os = w.os
 tape : w'.tape = w.tape
 output : w'.output = w.output
 size : w.heap.size <= w'.heap.size
 block : ∀ b, b < w.heap.size -> ¬ P b -> w'.heap[b]? = w.heap[b]?
theorem TurnsB.refl (P : Nat -> Prop) (w : World) : TurnsB P w w := ⟨rfl, rfl, rfl, Nat.le_refl _, fun _ _ _ => rfl⟩
theorem TurnsB.trans {P : Nat -> Prop} {a b c : World} (h : TurnsB P a b) (k : TurnsB P b c) : TurnsB P a c :=
 ⟨k.os.trans h.os, k.tape.trans h.tape, k.output.trans h.output, Nat.le_trans h.size k.size, fun q hq hn => (k.block q (Nat.lt_of_lt_of_le hq h.size) hn).trans (h.block q hq hn)⟩
theorem TurnsB.mono {P Q : Nat -> Prop} {a b : World} (h : TurnsB P a b) (k : ∀ q, P q -> Q q) : TurnsB Q a b := ⟨h.os, h.tape, h.output, h.size, fun q hq hn => h.block q hq fun hp => hn (k q hp)⟩
theorem TurnsB.grown {a b : World} {row : Option Nat} (h : a.grownBy b row) : TurnsB (fun q => row = some q) a b := ⟨h.os, h.tape, h.output, h.size, fun q hq hn => h.block q hq fun e => hn e.symm⟩
theorem TurnsB.keeps {P : Nat -> Prop} {w a b : World} (h : TurnsB P a b) (k : Keeps w a) (hp : ∀ q, P q -> w.heap.size <= q) : Keeps w b :=
 Below.trans k ⟨h.os, h.tape, h.output, h.size, fun i hi => h.block i (Nat.lt_of_lt_of_le hi k.size) fun hq => by have := hp i hq; omega⟩
end Go.Proofs.YthpdlbcdbncnhaaGreatDoor
namespace Go.Proofs.YthpdlbcdbncnhaaGreatDoor
open Go.RowKit
def qdF (s : Sy) : Prop := ∀ t ∈ s.tasks, 0 <= t.cpu /\ t.cpu < (s.floors.length : Int)
theorem OwnS.aside {w w' : World} {lo : Nat} {v : Sv} {vs : List Lv} {s : Sy} (h : OwnS w lo v vs s) (hz : w.heap.size <= w'.heap.size) (k : ∀ i b, qag v vs i b -> w'.heap[b]? = w.heap[b]?) : OwnS w' lo v vs s :=
 ⟨h.t.same fun b e => k 0 b e, (h.l.sameB fun b e => k 1 b e).widen (Nat.le_refl _) hz, h.g.same fun b e => k 2 b e, h.f.same fun b e => k 3 b e, h.r.same fun b e => k 4 b e, h.ap⟩
theorem OwnS.far {w : World} {lo : Nat} {v : Sv} {vs : List Lv} {s : Sy} (h : OwnS w lo v vs s) {c o : Nat} (hc : ∀ i, ¬ qag v vs i c) (x : Value) : OwnS (w.setCell ⟨c, o, none⟩ x) lo v vs s :=
 h.aside (by simp) fun i b hb => qbe (by intro e; subst e; exact hc i hb)
theorem OwnS.farC {lo : Nat} {v : Sv} {vs : List Lv} {s : Sy} {c : Nat} (hc : ∀ i, ¬ qag v vs i c) : ∀ (L : List Value) {w : World} (k : Nat), OwnS w lo v vs s -> OwnS (putC w c k L) lo v vs s
 | [], _, _, h => h
 | x :: r, _, k, h => OwnS.farC hc r (k + 1) (h.far hc x)
theorem OwnS.storeT {w : World} {lo : Nat} {v : Sv} {vs : List Lv} {s : Sy} (h : OwnS w lo v vs s) {rb : Nat} (ha : v.t.a = some ⟨rb, 0, none⟩) {k : Nat} (hk : k < s.tasks.length) (x : Tsk) :
  OwnS (putC w rb (k * 14) (tc x).toList) lo v vs { s with tasks := s.tasks.set k x } /\ TurnsB (qag v vs 0) w (putC w rb (k * 14) (tc x).toList) := by
 have hn := (h.t.row qar).1
 have hv : v.t.val = .slice (some ⟨rb, 0, none⟩) s.tasks.length v.t.cap := by rw [Rw.val, ha, hn]
 have O := h.t
 rw [hv] at O
 have G : w.grownBy (putC w rb (k * 14) (tc x).toList) (some rb) := qd5 _ _ _ (World.grownBy.refl _ _)
 have ho : v.t.val.ownBlock = some rb := by rw [hv]; rfl
 refine ⟨h.setT G.size (fun b hb hn => G.block b hb (fun e => hn (by show v.t.val.ownBlock = some b; rw [ho, e]))) v.t _ ?_ (fun b e => .inl e), ?_⟩
 ·have := O.put qar hk x
  rw [List.length_set] at this
  rw [hv]
  exact this
 ·exact (TurnsB.grown G).mono fun q hq => by show v.t.val.ownBlock = some q; rw [ho]; exact hq
end Go.Proofs.YthpdlbcdbncnhaaGreatDoor
