/-
  Words for what a call leaves as it was, and for a number be
  A block that holds these cells.
-/
import Derived.Test.YteagpjlgjfaclaaGreatDoorRows
import Derived.WalkKit
import Derived.WalkSpells
import Derived.WalkLawsBesides
import Derived.RegionTactic
import Derived.Deep.QuietTactic
import Derived.BigQuiet
import Derived.Below
import Derived.Deep.RegionHeld3
namespace Go.Proofs.YteagpjlgjfaclaaGreatDoor
open Go.RowKit
theorem iM:(∀ {α:Type} (l:List α) (i:Nat),l.toArray[i]?=l[i]?) /\ (∀ {α:Type} (a:α) (l:List α) (i:Nat),(a::l)[i+1]?=l[i]?) /\ (∀ {α:Type} (a:α) (l:List α),(a::l)[0]?=some a):=⟨fun _ _=>by simp,fun _ _ _=>by simp,fun _ _=>by simp⟩
theorem au:(∀ (a:Act) (d:Tmp) (v:Value),a.put (some d) v={ a with tmps:=a.tmps.setIfInBounds d v }) /\ (∀ (a:Act) (v:Value),a.put none v=a) /\ (∀ {α:Type} (l:List α) (i:Nat) (a:α),l.toArray.setIfInBounds i a=(l.set i a).toArray) /\ (∀ {α:Type} (x:α) (l:List α) (a:α),(x::l).set 0 a=a::l) /\ (∀ {α:Type} (x:α) (l:List α) (i:Nat) (a:α),(x::l).set (i+1) a=x::l.set i a):=⟨fun _ _ _=>rfl,fun _ _=>rfl,fun _ _ _=>by simp,fun _ _ _=>rfl,fun _ _ _ _=>rfl⟩
theorem di {P:Program} {ops:Array Oper} {Q:Exit->Act->World->Prop} {md:Region.Mode} {S:World->Prop} (i:Nat) {oi:Oper} {v:Value} {fuel:Nat} {listed:Array Bool} {a:Act} {w:World}
  (hi:ops[i]?=some oi:=by simp only [iM];rfl) (hb:(Region.noSelect ops&&Region.free md ops listed i&&(Region.ready md ops listed).contains i)=true:=by kernel_rfl) (hQ:∀ c a w,Q (.panic c) (a.put oi.dst v) w->Q (.panic c) a w:=by exact fun _ _ _ h=>h) (hg:Region.wanted oi (yielded ops a.tmps)=true:=by rfl) (hS:S w:=by assumption)
  (hy:∀ w,S w->(execOp a.eval oi).run P w = .ok (.value v) w:=by intro w _;go_simp;try (with_reducible rfl)) (h:wpAnyH P md ops Q S fuel (listed.setIfInBounds i true) (a.put oi.dst v) w):wpAnyH P md ops Q S (fuel+1) listed a w:=by
 simp only [Bool.and_eq_true] at hb
 exact wpAnyH_take hi hb.1.1 hb.1.2 hb.2 hQ (Or.inl ⟨hg,hy⟩) hS h
theorem Ba {P:Program} {ops:Array Oper} {Q:Exit->Act->World->Prop} {md:Region.Mode} {S:World->Prop} (i:Nat) {oi:Oper} {fuel:Nat} {listed:Array Bool} {a:Act} {w:World}
  (hi:ops[i]?=some oi:=by simp only [iM];rfl) (hb:(Region.noSelect ops&&Region.free md ops listed i&&(Region.ready md ops listed).contains i)=true:=by kernel_rfl) (hQ:∀ c a w,Q (.panic c) (a.put oi.dst undef) w->Q (.panic c) a w:=by exact fun _ _ _ h=>h) (hg:Region.wanted oi (yielded ops a.tmps)=false:=by rfl) (hS:S w:=by assumption)
  (h:wpAnyH P md ops Q S fuel (listed.setIfInBounds i true) (a.put oi.dst undef) w):wpAnyH P md ops Q S (fuel+1) listed a w:=by
 simp only [Bool.and_eq_true] at hb
 exact wpAnyH_take hi hb.1.1 hb.1.2 hb.2 hQ (Or.inr ⟨hg,rfl⟩) hS h
theorem aR {P:Program} {ops:Array Oper} {Q:Exit->Act->World->Prop} {md:Region.Mode} {S:World->Prop} (i:Nat) {o:Oper} {fuel:Nat} {listed:Array Bool} {a:Act} {w:World}
  (hr:Region.ready md ops listed=[i]:=by kernel_rfl) (ho:ops[i]?=some o:=by simp only [iM];rfl)
  (h:∀ K':Act->World->Prop,Shut (∀ a w,S w->(S w->wpAnyH P md ops Q S fuel (listed.setIfInBounds i true) a w)->K' a w)->if Region.wanted o (yielded ops a.tmps)=true then Oper.wp P o a w K' Q else K' (a.put o.dst undef) w):wpAnyH P md ops Q S (fuel+1) listed a w :=
 wpAnyH_ready hr (by simp) (AllReadyH.cons ho h AllReadyH.nil)
def Quiet (w w':World):Prop:=∃ n,w'=w.drewN n
def ad (_:List Nat) (p:Prop):Prop:=p
theorem ad.go (L:List Nat) {p:Prop} (h:ad L p):p:=h
theorem ad.nil {p:Prop} (h:p):ad [] p:=h
theorem aM {P:Program} {ops:Array Oper} {Q:Exit->Act->World->Prop} {md:Region.Mode} {S:World->Prop} {i:Nat} {L:List Nat} {oi:Oper} {v:Value} {fuel:Nat} {listed:Array Bool} {a:Act} {w:World}
  (hi:ops[i]?=some oi:=by simp only [iM];rfl) (hb:(Region.noSelect ops&&Region.free md ops listed i&&(Region.ready md ops listed).contains i)=true:=by kernel_rfl) (hQ:∀ c a w,Q (.panic c) (a.put oi.dst v) w->Q (.panic c) a w:=by exact fun _ _ _ h=>h) (hg:Region.wanted oi (yielded ops a.tmps)=true:=by rfl) (hS:S w:=by assumption)
  (hy:∀ w,S w->(execOp a.eval oi).run P w = .ok (.value v) w:=by intro w _;go_simp;try (with_reducible rfl)) (h:ad L (wpAnyH P md ops Q S fuel (listed.setIfInBounds i true) (a.put oi.dst v) w)):ad (i::L) (wpAnyH P md ops Q S (fuel+1) listed a w):=di i hi hb hQ hg hS hy h
theorem dK {P:Program} {ops:Array Oper} {Q:Exit->Act->World->Prop} {md:Region.Mode} {S:World->Prop} {i:Nat} {L:List Nat} {oi:Oper} {fuel:Nat} {listed:Array Bool} {a:Act} {w:World}
  (hi:ops[i]?=some oi:=by simp only [iM];rfl) (hb:(Region.noSelect ops&&Region.free md ops listed i&&(Region.ready md ops listed).contains i)=true:=by kernel_rfl) (hQ:∀ c a w,Q (.panic c) (a.put oi.dst undef) w->Q (.panic c) a w:=by exact fun _ _ _ h=>h) (hg:Region.wanted oi (yielded ops a.tmps)=false:=by rfl) (hS:S w:=by assumption)
  (h:ad L (wpAnyH P md ops Q S fuel (listed.setIfInBounds i true) (a.put oi.dst undef) w)):ad (i::L) (wpAnyH P md ops Q S (fuel+1) listed a w):=Ba i hi hb hQ hg hS h
theorem Quiet.refl (w:World):Quiet w w:=⟨0,rfl⟩
theorem Quiet.drewN {w w':World} (h:Quiet w w') (n:Nat):Quiet w (w'.drewN n):=by
 obtain ⟨m,rfl⟩:=h;exact ⟨m+n,by simp [World.drewN,Nat.add_assoc]⟩
theorem Quiet.trans {a b c:World} (h:Quiet a b) (k:Quiet b c):Quiet a c:=by
 obtain ⟨m,rfl⟩:=k;exact h.drewN m
theorem Quiet.below {w w':World} (h:Quiet w w') (B:Nat):Below B w w':=by
 obtain ⟨n,rfl⟩:=h;exact ⟨rfl,rfl,rfl,Nat.le_refl _,fun _ _=>rfl⟩
def aa (w w':World):Prop:=Below w.heap.size w w'
theorem aa.below {w w':World} (h:aa w w'):Below w.heap.size w w':=h
theorem aa.refl (w:World):aa w w:=Below.refl _ _
theorem aa.size {w w':World} (h:aa w w'):w.heap.size <= w'.heap.size:=Below.size h
theorem aa.trans {a b c:World} (h:aa a b) (k:aa b c):aa a c:=Below.trans h (Below.mono k h.size)
theorem aa.alloc {a b:World} (h:aa a b) (o:Obj):aa a (b.alloc o):=Below.alloc h h.size o
theorem aa.drew {a b:World} (h:aa a b):aa a b.drew:=Below.drew h
theorem aa.drewN {a b:World} (h:aa a b) (n:Nat):aa a (b.drewN n):=Below.trans h ⟨rfl,rfl,rfl,Nat.le_refl _,fun _ _=>rfl⟩
theorem aa.setCell {a b:World} (h:aa a b) {p:Addr} (hp:a.heap.size <= p.block) (u:Value):aa a (b.setCell p u):=Below.setCell h hp u
theorem aa.cells {w w':World} (h:aa w w'):∀ b o,b < w.heap.size->w'.cell? ⟨b,o,none⟩=w.cell? ⟨b,o,none⟩ :=
 fun b o hb=>Below.cell (p:=⟨b,o,none⟩) h hb
theorem aa.aO {w w':World} (h:aa w w'):∀ b o,b < w.heap.size->w'.frozen? ⟨b,o,none⟩=w.frozen? ⟨b,o,none⟩ :=
 fun b o hb=>Below.frozen (p:=⟨b,o,none⟩) h hb
theorem aa.rules {w w':World} (h:aa w w'):(∀ b o,b < w.heap.size->w'.cell? ⟨b,o,none⟩=w.cell? ⟨b,o,none⟩) /\ ∀ b o,b < w.heap.size->w'.frozen? ⟨b,o,none⟩=w.frozen? ⟨b,o,none⟩:=⟨h.cells,h.aO⟩
theorem aa.has {W:World} {b o:Nat} {v:Value} (h:W.cell? ⟨b,o,none⟩=some v):∀ w',aa W w'->w'.cell? ⟨b,o,none⟩=some v :=
 fun _ k=>(k.cells b o (World.block_lt_of_cell? W _ h)).trans h
def aH (x lo hi:Int):Bool:=decide (lo <= x)&&decide (x <= hi)
theorem sa {x lo hi:Int} (h:lo <= x) (h':x <= hi):aH x lo hi=true:=by simp [aH,h,h']
theorem mh {x lo hi:Int} (h:x < lo∨hi < x):aH x lo hi=false:=by
 unfold aH;rcases h with h | h
 ·rw [decide_eq_false (show ¬ lo <= x by omega)];rfl
 ·rw [decide_eq_false (show ¬ x <= hi by omega),Bool.and_false]
theorem dq {x lo hi:Int}:aH x lo hi=true↔lo <= x /\ x <= hi:=by simp [aH]
theorem mi {w:World} {b o:Nat} {u:Value} (h:w.cell? ⟨b,o,none⟩=some u) (v:Value):(w.setCell ⟨b,o,none⟩ v).cell? ⟨b,o,none⟩=some v:=World.cell?_setCell_same (h:=h) ..
theorem fU {w:World} {b o b' o':Nat} (h:b≠b'∨o≠o') (v:Value):(w.setCell ⟨b,o,none⟩ v).cell? ⟨b',o',none⟩=w.cell? ⟨b',o',none⟩:=by
 refine World.cell?_setCell_other (h := ?_) ..
 simp only [ne_eq,Addr.mk.injEq,not_and]
 intro e f;omega
structure aq (w:World) (b:Nat) (C:Array Value):Prop where
 lt:b < w.heap.size
 cells:∀ k,w.cell? ⟨b,k,none⟩=C[k]?
 aO:∀ k,w.frozen? ⟨b,k,none⟩=false
theorem aq.keeps {w w':World} {b:Nat} {C:Array Value} (h:aq w b C) (k:aa w w'):aq w' b C :=
 ⟨Nat.lt_of_lt_of_le h.lt k.size,fun i=>(k.cells b i h.lt).trans (h.cells i),fun i=>(k.aO b i h.lt).trans (h.aO i)⟩
theorem aq.new (w:World) (C:Array Value) (t:TypeId):aq (w.alloc (.cells C t)) w.heap.size C :=
 ⟨by simp [go_sem],fun k=>by simp [go_sem],fun k=>by simp [go_sem]⟩
theorem dA (w:World) (C:Array Value) (t:TypeId):∀ w',aa (w.alloc (.cells C t)) w'->∀ j,w'.cell? ⟨w.heap.size,j,none⟩=C[j]?:=fun _ k=>((aq.new w C t).keeps k).cells
theorem dw (w:World) (o:Obj):aa w (w.alloc o):=(aa.refl w).alloc o
theorem aq.alloc {w:World} {b:Nat} {C:Array Value} (h:aq w b C) (o:Obj):aq (w.alloc o) b C:=h.keeps ((aa.refl w).alloc o)
theorem aq.far {w:World} {b c o:Nat} {C:Array Value} (h:aq w b C) (hc:c≠b) (x:Value):aq (w.setCell ⟨c,o,none⟩ x) b C :=
 ⟨by simpa using h.lt,fun k=>by rw [fU (.inl hc)];exact h.cells k,fun k=>by simpa using h.aO k⟩
theorem aq.set {w:World} {b:Nat} {C:Array Value} (h:aq w b C) (k:Nat) (hk:k < C.size) (x:Value):aq (w.setCell ⟨b,k,none⟩ x) b (C.setIfInBounds k x) :=
 ⟨by simpa using h.lt,fun i=>by
  by_cases e:k=i
  ·subst e
   rw [Array.getElem?_setIfInBounds_self_of_lt hk]
   exact mi (u:=C[k]) (by rw [h.cells];simp [hk]) _
  ·rw [fU (.inr e),h.cells,Array.getElem?_setIfInBounds_ne e],fun i=>by simpa using h.aO i⟩
end Go.Proofs.YteagpjlgjfaclaaGreatDoor
