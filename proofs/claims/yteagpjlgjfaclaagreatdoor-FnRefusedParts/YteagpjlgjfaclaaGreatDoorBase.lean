/-
  Words for what a call leaves as it was, and for a number be
  A block that holds these cells.
-/
import Derived.Test.YteagpjlgjfaclaaGreatDoorRows
import Derived.WalkKit
import Derived.WalkSpells
import Derived.WalkLawsBesides
import Derived.RegionTactic
import Derived.Deep.QuietTactic
import Derived.BigQuiet
import Derived.Below
import Derived.Deep.RegionHeld3
namespace Go.Proofs.YteagpjlgjfaclaaGreatDoor
open Go.RowKit
theorem qab:(∀ {α:Type} (l:List α) (i:Nat),l.toArray[i]?=l[i]?) /\ (∀ {α:Type} (a:α) (l:List α) (i:Nat),(a::l)[i+1]?=l[i]?) /\ (∀ {α:Type} (a:α) (l:List α),(a::l)[0]?=some a):=⟨fun _ _=>by simp,fun _ _ _=>by simp,fun _ _=>by simp⟩
theorem qaa:(∀ (a:Act) (d:Tmp) (v:Value),a.put (some d) v={ a with tmps:=a.tmps.setIfInBounds d v }) /\ (∀ (a:Act) (v:Value),a.put none v=a) /\ (∀ {α:Type} (l:List α) (i:Nat) (a:α),l.toArray.setIfInBounds i a=(l.set i a).toArray) /\ (∀ {α:Type} (x:α) (l:List α) (a:α),(x::l).set 0 a=a::l) /\ (∀ {α:Type} (x:α) (l:List α) (i:Nat) (a:α),(x::l).set (i+1) a=x::l.set i a):=⟨fun _ _ _=>rfl,fun _ _=>rfl,fun _ _ _=>by simp,fun _ _ _=>rfl,fun _ _ _ _=>rfl⟩
theorem qar {P:Program} {ops:Array Oper} {Q:Exit->Act->World->Prop} {md:Region.Mode} {S:World->Prop} (i:Nat) {oi:Oper} {v:Value} {fuel:Nat} {listed:Array Bool} {a:Act} {w:World}
  (hi:ops[i]?=some oi) (hb:(Region.noSelect ops&&Region.free md ops listed i&&(Region.ready md ops listed).contains i)=true) (hQ:∀ c a w,Q (.panic c) (a.put oi.dst v) w->Q (.panic c) a w) (hg:Region.wanted oi (yielded ops a.tmps)=true) (hS:S w)
  (hy:∀ w,S w->(execOp a.eval oi).run P w = .ok (.value v) w) (h:wpAnyH P md ops Q S fuel (listed.setIfInBounds i true) (a.put oi.dst v) w):wpAnyH P md ops Q S (fuel+1) listed a w:=by
 simp only [Bool.and_eq_true] at hb
 exact wpAnyH_take hi hb.1.1 hb.1.2 hb.2 hQ (Or.inl ⟨hg,hy⟩) hS h
theorem qhW {P:Program} {ops:Array Oper} {Q:Exit->Act->World->Prop} {md:Region.Mode} {S:World->Prop} (i:Nat) {oi:Oper} {fuel:Nat} {listed:Array Bool} {a:Act} {w:World}
  (hi:ops[i]?=some oi) (hb:(Region.noSelect ops&&Region.free md ops listed i&&(Region.ready md ops listed).contains i)=true) (hQ:∀ c a w,Q (.panic c) (a.put oi.dst undef) w->Q (.panic c) a w) (hg:Region.wanted oi (yielded ops a.tmps)=false) (hS:S w)
  (h:wpAnyH P md ops Q S fuel (listed.setIfInBounds i true) (a.put oi.dst undef) w):wpAnyH P md ops Q S (fuel+1) listed a w:=by
 simp only [Bool.and_eq_true] at hb
 exact wpAnyH_take hi hb.1.1 hb.1.2 hb.2 hQ (Or.inr ⟨hg,rfl⟩) hS h
theorem qad {P:Program} {ops:Array Oper} {Q:Exit->Act->World->Prop} {md:Region.Mode} {S:World->Prop} (i:Nat) {o:Oper} {fuel:Nat} {listed:Array Bool} {a:Act} {w:World}
  (hr:Region.ready md ops listed=[i]) (ho:ops[i]?=some o)
  (h:∀ K':Act->World->Prop,Shut (∀ a w,S w->(S w->wpAnyH P md ops Q S fuel (listed.setIfInBounds i true) a w)->K' a w)->if Region.wanted o (yielded ops a.tmps)=true then Oper.wp P o a w K' Q else K' (a.put o.dst undef) w):wpAnyH P md ops Q S (fuel+1) listed a w :=
 wpAnyH_ready hr (by simp) (AllReadyH.cons ho h AllReadyH.nil)
def Quiet (w w':World):Prop:=∃ n,w'=w.drewN n
def Plan (_:List Nat) (p:Prop):Prop:=p
theorem Plan.go (L:List Nat) {p:Prop} (h:Plan L p):p:=h
theorem Plan.nil {p:Prop} (h:p):Plan [] p:=h
theorem qac {P:Program} {ops:Array Oper} {Q:Exit->Act->World->Prop} {md:Region.Mode} {S:World->Prop} {i:Nat} {L:List Nat} {oi:Oper} {v:Value} {fuel:Nat} {listed:Array Bool} {a:Act} {w:World}
  (hi:ops[i]?=some oi) (hb:(Region.noSelect ops&&Region.free md ops listed i&&(Region.ready md ops listed).contains i)=true) (hQ:∀ c a w,Q (.panic c) (a.put oi.dst v) w->Q (.panic c) a w) (hg:Region.wanted oi (yielded ops a.tmps)=true) (hS:S w)
  (hy:∀ w,S w->(execOp a.eval oi).run P w = .ok (.value v) w) (h:Plan L (wpAnyH P md ops Q S fuel (listed.setIfInBounds i true) (a.put oi.dst v) w)):Plan (i::L) (wpAnyH P md ops Q S (fuel+1) listed a w):=qar i hi hb hQ hg hS hy h
theorem qaA {P:Program} {ops:Array Oper} {Q:Exit->Act->World->Prop} {md:Region.Mode} {S:World->Prop} {i:Nat} {L:List Nat} {oi:Oper} {fuel:Nat} {listed:Array Bool} {a:Act} {w:World}
  (hi:ops[i]?=some oi) (hb:(Region.noSelect ops&&Region.free md ops listed i&&(Region.ready md ops listed).contains i)=true) (hQ:∀ c a w,Q (.panic c) (a.put oi.dst undef) w->Q (.panic c) a w) (hg:Region.wanted oi (yielded ops a.tmps)=false) (hS:S w)
  (h:Plan L (wpAnyH P md ops Q S fuel (listed.setIfInBounds i true) (a.put oi.dst undef) w)):Plan (i::L) (wpAnyH P md ops Q S (fuel+1) listed a w):=qhW i hi hb hQ hg hS h
theorem Quiet.refl (w:World):Quiet w w:=⟨0,rfl⟩
theorem Quiet.drewN {w w':World} (h:Quiet w w') (n:Nat):Quiet w (w'.drewN n):=by
 obtain ⟨m,rfl⟩:=h;exact ⟨m+n,by simp [World.drewN,Nat.add_assoc]⟩
def Keeps (w w':World):Prop:=Below w.heap.size w w'
theorem Keeps.refl (w:World):Keeps w w:=Below.refl _ _
theorem Keeps.size {w w':World} (h:Keeps w w'):w.heap.size <= w'.heap.size:=Below.size h
theorem Keeps.trans {a b c:World} (h:Keeps a b) (k:Keeps b c):Keeps a c:=Below.trans h (Below.mono k h.size)
theorem Keeps.alloc {a b:World} (h:Keeps a b) (o:Obj):Keeps a (b.alloc o):=Below.alloc h h.size o
theorem Keeps.drew {a b:World} (h:Keeps a b):Keeps a b.drew:=Below.drew h
theorem Keeps.drewN {a b:World} (h:Keeps a b) (n:Nat):Keeps a (b.drewN n):=Below.trans h ⟨rfl,rfl,rfl,Nat.le_refl _,fun _ _=>rfl⟩
theorem Keeps.setCell {a b:World} (h:Keeps a b) {p:Addr} (hp:a.heap.size <= p.block) (u:Value):Keeps a (b.setCell p u):=Below.setCell h hp u
theorem Keeps.cells {w w':World} (h:Keeps w w'):∀ b o,b < w.heap.size->w'.cell? ⟨b,o,none⟩=w.cell? ⟨b,o,none⟩ :=
 fun b o hb=>Below.cell (p:=⟨b,o,none⟩) h hb
theorem Keeps.frozens {w w':World} (h:Keeps w w'):∀ b o,b < w.heap.size->w'.frozen? ⟨b,o,none⟩=w.frozen? ⟨b,o,none⟩ :=
 fun b o hb=>Below.frozen (p:=⟨b,o,none⟩) h hb
theorem Keeps.rules {w w':World} (h:Keeps w w'):(∀ b o,b < w.heap.size->w'.cell? ⟨b,o,none⟩=w.cell? ⟨b,o,none⟩) /\ ∀ b o,b < w.heap.size->w'.frozen? ⟨b,o,none⟩=w.frozen? ⟨b,o,none⟩:=⟨h.cells,h.frozens⟩
theorem Keeps.has {W:World} {b o:Nat} {v:Value} (h:W.cell? ⟨b,o,none⟩=some v):∀ w',Keeps W w'->w'.cell? ⟨b,o,none⟩=some v :=
 fun _ k=>(k.cells b o (World.block_lt_of_cell? W _ h)).trans h
def inB (x lo hi:Int):Bool:=decide (lo <= x)&&decide (x <= hi)
theorem qeR {x lo hi:Int} (h:lo <= x) (h':x <= hi):inB x lo hi=true:=by simp [inB,h,h']
theorem qdj {x lo hi:Int} (h:x < lo∨hi < x):inB x lo hi=false:=by
 unfold inB;rcases h with h | h
 ·rw [decide_eq_false (show ¬ lo <= x by omega)];rfl
 ·rw [decide_eq_false (show ¬ x <= hi by omega),Bool.and_false]
theorem qas {x lo hi:Int}:inB x lo hi=true↔lo <= x /\ x <= hi:=by simp [inB]
end Go.Proofs.YteagpjlgjfaclaaGreatDoor
namespace Go.Proofs.YteagpjlgjfaclaaGreatDoor
open Go.RowKit
theorem qdk {w:World} {b o:Nat} {u:Value} (h:w.cell? ⟨b,o,none⟩=some u) (v:Value):(w.setCell ⟨b,o,none⟩ v).cell? ⟨b,o,none⟩=some v:=World.cell?_setCell_same (h:=h) ..
theorem qa4 {w:World} {b o b' o':Nat} (h:b≠b'∨o≠o') (v:Value):(w.setCell ⟨b,o,none⟩ v).cell? ⟨b',o',none⟩=w.cell? ⟨b',o',none⟩:=by
 refine World.cell?_setCell_other (h := ?_) ..
 simp only [ne_eq,Addr.mk.injEq,not_and]
 intro e f;omega
structure Blk (w:World) (b:Nat) (C:Array Value):Prop where
 lt:b < w.heap.size
 cells:∀ k,w.cell? ⟨b,k,none⟩=C[k]?
 frozens:∀ k,w.frozen? ⟨b,k,none⟩=false
theorem Blk.keeps {w w':World} {b:Nat} {C:Array Value} (h:Blk w b C) (k:Keeps w w'):Blk w' b C :=
 ⟨Nat.lt_of_lt_of_le h.lt k.size,fun i=>(k.cells b i h.lt).trans (h.cells i),fun i=>(k.frozens b i h.lt).trans (h.frozens i)⟩
theorem Blk.new (w:World) (C:Array Value) (t:TypeId):Blk (w.alloc (.cells C t)) w.heap.size C :=
 ⟨by simp [go_sem],fun k=>by simp [go_sem],fun k=>by simp [go_sem]⟩
theorem blkR (w:World) (C:Array Value) (t:TypeId):∀ w',Keeps (w.alloc (.cells C t)) w'->∀ j,w'.cell? ⟨w.heap.size,j,none⟩=C[j]?:=fun _ k=>((Blk.new w C t).keeps k).cells
theorem blkK (w:World) (o:Obj):Keeps w (w.alloc o):=(Keeps.refl w).alloc o
theorem Blk.alloc {w:World} {b:Nat} {C:Array Value} (h:Blk w b C) (o:Obj):Blk (w.alloc o) b C:=h.keeps ((Keeps.refl w).alloc o)
theorem Blk.far {w:World} {b c o:Nat} {C:Array Value} (h:Blk w b C) (hc:c≠b) (x:Value):Blk (w.setCell ⟨c,o,none⟩ x) b C :=
 ⟨by simpa using h.lt,fun k=>by rw [qa4 (.inl hc)];exact h.cells k,fun k=>by simpa using h.frozens k⟩
theorem Blk.set {w:World} {b:Nat} {C:Array Value} (h:Blk w b C) (k:Nat) (hk:k < C.size) (x:Value):Blk (w.setCell ⟨b,k,none⟩ x) b (C.setIfInBounds k x) :=
 ⟨by simpa using h.lt,fun i=>by
  by_cases e:k=i
  ·subst e
   rw [Array.getElem?_setIfInBounds_self_of_lt hk]
   exact qdk (u:=C[k]) (by rw [h.cells];simp [hk]) _
  ·rw [qa4 (.inr e),h.cells,Array.getElem?_setIfInBounds_ne e],fun i=>by simpa using h.frozens i⟩
end Go.Proofs.YteagpjlgjfaclaaGreatDoor
