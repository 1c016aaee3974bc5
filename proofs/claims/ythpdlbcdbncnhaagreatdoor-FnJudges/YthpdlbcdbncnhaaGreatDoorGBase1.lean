/-
  Words for what a call leaves as it was, and for a number be
-/
import Derived.Test.YthpdlbcdbncnhaaGreatDoorRows
import Derived.WalkKit
import Derived.WalkSpells
import Derived.WalkLawsBesides
import Derived.RegionTactic
import Derived.Deep.QuietTactic
import Derived.BigQuiet
import Derived.Below
import Derived.Deep.RegionHeld3
import Derived.Deep.OwnRows
import Derived.Deep.AppendLies
import Derived.Laws.OwnMore
import Derived.Laws.CopyOwn
namespace Go.Proofs.YthpdlbcdbncnhaaGreatDoor
open Go.RowKit
theorem qab:(∀ {α:Type} (l:List α) (i:Nat),l.toArray[i]?=l[i]?) /\ (∀ {α:Type} (a:α) (l:List α) (i:Nat),(a::l)[i+1]?=l[i]?) /\ (∀ {α:Type} (a:α) (l:List α),(a::l)[0]?=some a):=⟨fun _ _=>by simp,fun _ _ _=>by simp,fun _ _=>by simp⟩
theorem qaa:(∀ (a:Act) (d:Tmp) (v:Value),a.put (some d) v={ a with tmps:=a.tmps.setIfInBounds d v }) /\ (∀ (a:Act) (v:Value),a.put none v=a) /\ (∀ {α:Type} (l:List α) (i:Nat) (a:α),l.toArray.setIfInBounds i a=(l.set i a).toArray) /\ (∀ {α:Type} (x:α) (l:List α) (a:α),(x::l).set 0 a=a::l) /\ (∀ {α:Type} (x:α) (l:List α) (i:Nat) (a:α),(x::l).set (i+1) a=x::l.set i a):=⟨fun _ _ _=>rfl,fun _ _=>rfl,fun _ _ _=>by simp,fun _ _ _=>rfl,fun _ _ _ _=>rfl⟩
theorem qan {P:Program} {ops:Array Oper} {Q:Exit->Act->World->Prop} {md:Region.Mode} {S:World->Prop} (i:Nat) {oi:Oper} {v:Value} {fuel:Nat} {listed:Array Bool} {a:Act} {w:World}
  (hi:ops[i]?=some oi) (hb:(Region.noSelect ops&&Region.free md ops listed i&&(Region.ready md ops listed).contains i)=true) (hQ:∀ c a w,Q (.panic c) (a.put oi.dst v) w->Q (.panic c) a w) (hg:Region.wanted oi (yielded ops a.tmps)=true) (hS:S w)
  (hy:∀ w,S w->(execOp a.eval oi).run P w = .ok (.value v) w) (h:wpAnyH P md ops Q S fuel (listed.setIfInBounds i true) (a.put oi.dst v) w):wpAnyH P md ops Q S (fuel+1) listed a w:=by
 simp only [Bool.and_eq_true] at hb
 exact wpAnyH_take hi hb.1.1 hb.1.2 hb.2 hQ (Or.inl ⟨hg,hy⟩) hS h
theorem qjx {P:Program} {ops:Array Oper} {Q:Exit->Act->World->Prop} {md:Region.Mode} {S:World->Prop} (i:Nat) {oi:Oper} {fuel:Nat} {listed:Array Bool} {a:Act} {w:World}
  (hi:ops[i]?=some oi) (hb:(Region.noSelect ops&&Region.free md ops listed i&&(Region.ready md ops listed).contains i)=true) (hQ:∀ c a w,Q (.panic c) (a.put oi.dst undef) w->Q (.panic c) a w) (hg:Region.wanted oi (yielded ops a.tmps)=false) (hS:S w)
  (h:wpAnyH P md ops Q S fuel (listed.setIfInBounds i true) (a.put oi.dst undef) w):wpAnyH P md ops Q S (fuel+1) listed a w:=by
 simp only [Bool.and_eq_true] at hb
 exact wpAnyH_take hi hb.1.1 hb.1.2 hb.2 hQ (Or.inr ⟨hg,rfl⟩) hS h
theorem qad {P:Program} {ops:Array Oper} {Q:Exit->Act->World->Prop} {md:Region.Mode} {S:World->Prop} (i:Nat) {o:Oper} {fuel:Nat} {listed:Array Bool} {a:Act} {w:World}
  (hr:Region.ready md ops listed=[i]) (ho:ops[i]?=some o)
  (h:∀ K':Act->World->Prop,Shut (∀ a w,S w->(S w->wpAnyH P md ops Q S fuel (listed.setIfInBounds i true) a w)->K' a w)->if Region.wanted o (yielded ops a.tmps)=true then Oper.wp P o a w K' Q else K' (a.put o.dst undef) w):wpAnyH P md ops Q S (fuel+1) listed a w :=
 wpAnyH_ready hr (by simp) (AllReadyH.cons ho h AllReadyH.nil)
def Quiet (w w':World):Prop:=∃ n,w'=w.drewN n
def Plan (_:List Nat) (p:Prop):Prop:=p
theorem Plan.go (L:List Nat) {p:Prop} (h:Plan L p):p:=h
theorem Plan.nil {p:Prop} (h:p):Plan [] p:=h
theorem qac {P:Program} {ops:Array Oper} {Q:Exit->Act->World->Prop} {md:Region.Mode} {S:World->Prop} {i:Nat} {L:List Nat} {oi:Oper} {v:Value} {fuel:Nat} {listed:Array Bool} {a:Act} {w:World}
  (hi:ops[i]?=some oi) (hb:(Region.noSelect ops&&Region.free md ops listed i&&(Region.ready md ops listed).contains i)=true) (hQ:∀ c a w,Q (.panic c) (a.put oi.dst v) w->Q (.panic c) a w) (hg:Region.wanted oi (yielded ops a.tmps)=true) (hS:S w)
  (hy:∀ w,S w->(execOp a.eval oi).run P w = .ok (.value v) w) (h:Plan L (wpAnyH P md ops Q S fuel (listed.setIfInBounds i true) (a.put oi.dst v) w)):Plan (i::L) (wpAnyH P md ops Q S (fuel+1) listed a w):=qan i hi hb hQ hg hS hy h
theorem qaq {P:Program} {ops:Array Oper} {Q:Exit->Act->World->Prop} {md:Region.Mode} {S:World->Prop} {i:Nat} {L:List Nat} {oi:Oper} {fuel:Nat} {listed:Array Bool} {a:Act} {w:World}
  (hi:ops[i]?=some oi) (hb:(Region.noSelect ops&&Region.free md ops listed i&&(Region.ready md ops listed).contains i)=true) (hQ:∀ c a w,Q (.panic c) (a.put oi.dst undef) w->Q (.panic c) a w) (hg:Region.wanted oi (yielded ops a.tmps)=false) (hS:S w)
  (h:Plan L (wpAnyH P md ops Q S fuel (listed.setIfInBounds i true) (a.put oi.dst undef) w)):Plan (i::L) (wpAnyH P md ops Q S (fuel+1) listed a w):=qjx i hi hb hQ hg hS h
theorem Quiet.refl (w:World):Quiet w w:=⟨0,rfl⟩
theorem Quiet.drewN {w w':World} (h:Quiet w w') (n:Nat):Quiet w (w'.drewN n):=by
 obtain ⟨m,rfl⟩:=h;exact ⟨m+n,by simp [World.drewN,Nat.add_assoc]⟩
def Keeps (w w':World):Prop:=Below w.heap.size w w'
theorem Keeps.refl (w:World):Keeps w w:=Below.refl _ _
theorem Keeps.size {w w':World} (h:Keeps w w'):w.heap.size <= w'.heap.size:=Below.size h
theorem Keeps.trans {a b c:World} (h:Keeps a b) (k:Keeps b c):Keeps a c:=Below.trans h (Below.mono k h.size)
theorem Keeps.alloc {a b:World} (h:Keeps a b) (o:Obj):Keeps a (b.alloc o):=Below.alloc h h.size o
theorem Keeps.drew {a b:World} (h:Keeps a b):Keeps a b.drew:=Below.drew h
theorem Keeps.drewN {a b:World} (h:Keeps a b) (n:Nat):Keeps a (b.drewN n):=Below.trans h ⟨rfl,rfl,rfl,Nat.le_refl _,fun _ _=>rfl⟩
theorem Keeps.setCell {a b:World} (h:Keeps a b) {p:Addr} (hp:a.heap.size <= p.block) (u:Value):Keeps a (b.setCell p u):=Below.setCell h hp u
theorem Keeps.cells {w w':World} (h:Keeps w w'):∀ b o,b < w.heap.size->w'.cell? ⟨b,o,none⟩=w.cell? ⟨b,o,none⟩ :=
 fun b o hb=>Below.cell (p:=⟨b,o,none⟩) h hb
theorem Keeps.frozens {w w':World} (h:Keeps w w'):∀ b o,b < w.heap.size->w'.frozen? ⟨b,o,none⟩=w.frozen? ⟨b,o,none⟩ :=
 fun b o hb=>Below.frozen (p:=⟨b,o,none⟩) h hb
theorem Keeps.rules {w w':World} (h:Keeps w w'):(∀ b o,b < w.heap.size->w'.cell? ⟨b,o,none⟩=w.cell? ⟨b,o,none⟩) /\ ∀ b o,b < w.heap.size->w'.frozen? ⟨b,o,none⟩=w.frozen? ⟨b,o,none⟩:=⟨h.cells,h.frozens⟩
theorem Keeps.has {W:World} {b o:Nat} {v:Value} (h:W.cell? ⟨b,o,none⟩=some v):∀ w',Keeps W w'->w'.cell? ⟨b,o,none⟩=some v :=
 fun _ k=>(k.cells b o (World.block_lt_of_cell? W _ h)).trans h
def inB (x lo hi:Int):Bool:=decide (lo <= x)&&decide (x <= hi)
theorem qfq {x lo hi:Int} (h:lo <= x) (h':x <= hi):inB x lo hi=true:=by simp [inB,h,h']
theorem qdG {x lo hi:Int} (h:x < lo∨hi < x):inB x lo hi=false:=by
 unfold inB;rcases h with h | h
 ·rw [decide_eq_false (show ¬ lo <= x by omega)];rfl
 ·rw [decide_eq_false (show ¬ x <= hi by omega),Bool.and_false]
theorem qap {x lo hi:Int}:inB x lo hi=true↔lo <= x /\ x <= hi:=by simp [inB]
theorem qcX {w:World} {b o:Nat} {u:Value} (h:w.cell? ⟨b,o,none⟩=some u) (v:Value):(w.setCell ⟨b,o,none⟩ v).cell? ⟨b,o,none⟩=some v:=World.cell?_setCell_same (h:=h) ..
theorem qaN {w:World} {b o b' o':Nat} (h:b≠b'∨o≠o') (v:Value):(w.setCell ⟨b,o,none⟩ v).cell? ⟨b',o',none⟩=w.cell? ⟨b',o',none⟩:=by
 refine World.cell?_setCell_other (h := ?_) ..
 simp only [ne_eq,Addr.mk.injEq,not_and]
 intro e f;omega
structure Blk (w:World) (b:Nat) (C:Array Value):Prop where
 lt:b < w.heap.size
 cells:∀ k,w.cell? ⟨b,k,none⟩=C[k]?
 frozens:∀ k,w.frozen? ⟨b,k,none⟩=false
theorem Blk.keeps {w w':World} {b:Nat} {C:Array Value} (h:Blk w b C) (k:Keeps w w'):Blk w' b C :=
 ⟨Nat.lt_of_lt_of_le h.lt k.size,fun i=>(k.cells b i h.lt).trans (h.cells i),fun i=>(k.frozens b i h.lt).trans (h.frozens i)⟩
theorem Blk.new (w:World) (C:Array Value) (t:TypeId):Blk (w.alloc (.cells C t)) w.heap.size C :=
 ⟨by simp [go_sem],fun k=>by simp [go_sem],fun k=>by simp [go_sem]⟩
theorem blkR (w:World) (C:Array Value) (t:TypeId):∀ w',Keeps (w.alloc (.cells C t)) w'->∀ j,w'.cell? ⟨w.heap.size,j,none⟩=C[j]?:=fun _ k=>((Blk.new w C t).keeps k).cells
theorem blkK (w:World) (o:Obj):Keeps w (w.alloc o):=(Keeps.refl w).alloc o
theorem Blk.alloc {w:World} {b:Nat} {C:Array Value} (h:Blk w b C) (o:Obj):Blk (w.alloc o) b C:=h.keeps ((Keeps.refl w).alloc o)
theorem Blk.far {w:World} {b c o:Nat} {C:Array Value} (h:Blk w b C) (hc:c≠b) (x:Value):Blk (w.setCell ⟨c,o,none⟩ x) b C :=
 ⟨by simpa using h.lt,fun k=>by rw [qaN (.inl hc)];exact h.cells k,fun k=>by simpa using h.frozens k⟩
theorem Blk.set {w:World} {b:Nat} {C:Array Value} (h:Blk w b C) (k:Nat) (hk:k < C.size) (x:Value):Blk (w.setCell ⟨b,k,none⟩ x) b (C.setIfInBounds k x) :=
 ⟨by simpa using h.lt,fun i=>by
  by_cases e:k=i
  ·subst e
   rw [Array.getElem?_setIfInBounds_self_of_lt hk]
   exact qcX (u:=C[k]) (by rw [h.cells];simp [hk]) _
  ·rw [qaN (.inr e),h.cells,Array.getElem?_setIfInBounds_ne e],fun i=>by simpa using h.frozens i⟩
def Lies {α:Type} (sz:Nat) (c:α->Array Value) (w:World) (a:Option Addr) (xs:List α):Prop :=
 xs=[]∨∃ b off,a=some ⟨b,off,none⟩ /\ b < w.heap.size /\ ∀ i x,xs[i]?=some x->∀ k,k < sz->w.cell? ⟨b,off+i*sz+k,none⟩=(c x)[k]?
theorem Lies.keeps {α:Type} {sz:Nat} {c:α->Array Value} {w w':World} {a:Option Addr} {xs:List α} (h:Lies sz c w a xs) (k:Keeps w w'):Lies sz c w' a xs:=by
 rcases h with h | ⟨b,off,rfl,hb,h⟩
 ·exact .inl h
 ·exact .inr ⟨b,off,rfl,Nat.lt_of_lt_of_le hb k.size,fun i x hx j hj=>(k.cells _ _ hb).trans (h i x hx j hj)⟩
theorem Lies.at {α:Type} {sz:Nat} {c:α->Array Value} {w:World} {a:Option Addr} {xs:List α} (h:Lies sz c w a xs) {i:Nat} {x:α} (hx:xs[i]?=some x) (h0:0 < sz) :
  ∃ b off,a=some ⟨b,off,none⟩ /\ (∀ w',Keeps w w'->w'.cell? ⟨b,off+i*sz,none⟩=(c x)[0]?) /\ ∀ w',Keeps w w'->∀ k,k < sz->w'.cell? ⟨b,off+i*sz+k,none⟩=(c x)[k]?:=by
 rcases h with rfl | ⟨b,off,rfl,hb,h⟩
 ·simp at hx
 ·exact ⟨b,off,rfl,fun w' k=>(k.cells _ _ hb).trans (h i x hx 0 h0),fun w' k j hj=>(k.cells _ _ hb).trans (h i x hx j hj)⟩
structure KeepsBut (g:Nat) (w w':World):Prop where
 os:w'.os=w.os
 tape:w'.tape=w.tape
 output:w'.output=w.output
 size:w.heap.size <= w'.heap.size
 block:∀ k,k < w.heap.size->k≠g->w'.heap[k]?=w.heap[k]?
theorem KeepsBut.of {g:Nat} {w w':World} (h:Keeps w w'):KeepsBut g w w':=⟨Below.os h,Below.tape h,Below.output h,Below.size h,fun k hk _=>Below.block h k hk⟩
theorem KeepsBut.refl (g:Nat) (w:World):KeepsBut g w w := .of (Keeps.refl w)
theorem KeepsBut.trans {g:Nat} {a b c:World} (h:KeepsBut g a b) (k:KeepsBut g b c):KeepsBut g a c :=
 ⟨k.os.trans h.os,k.tape.trans h.tape,k.output.trans h.output,Nat.le_trans h.size k.size,fun i hi hg=>(k.block i (Nat.lt_of_lt_of_le hi h.size) hg).trans (h.block i hi hg)⟩
theorem KeepsBut.alloc {g:Nat} {a b:World} (h:KeepsBut g a b) (o:Obj):KeepsBut g a (b.alloc o):=h.trans (.of ((Keeps.refl b).alloc o))
theorem KeepsBut.drew {g:Nat} {a b:World} (h:KeepsBut g a b):KeepsBut g a b.drew:=h.trans (.of (Keeps.refl b).drew)
theorem KeepsBut.drewN {g:Nat} {a b:World} (h:KeepsBut g a b) (n:Nat):KeepsBut g a (b.drewN n):=h.trans (.of ((Keeps.refl b).drewN n))
theorem KeepsBut.setCell {g:Nat} {a b:World} (h:KeepsBut g a b) (o:Nat) (v:Value):KeepsBut g a (b.setCell ⟨g,o,none⟩ v) :=
 h.trans ⟨rfl,rfl,rfl,by simp [World.setCell],fun k _ hg=>Below.heap_setCell _ _ _ _ hg⟩
theorem KeepsBut.setNew {g:Nat} {a b:World} (h:KeepsBut g a b) {p:Addr} (hp:a.heap.size <= p.block) (v:Value):KeepsBut g a (b.setCell p v) :=
 ⟨h.os,h.tape,h.output,Nat.le_trans h.size (by simp [World.setCell]),fun k hk hg=>(Below.heap_setCell _ _ _ _ (by omega)).trans (h.block k hk hg)⟩
theorem KeepsBut.cells {g:Nat} {w w':World} (h:KeepsBut g w w'):∀ b o,b < w.heap.size->b≠g->w'.cell? ⟨b,o,none⟩=w.cell? ⟨b,o,none⟩ :=
 fun b _ hb hg=>World.cell?_of_block (w:=w) (h.block b hb hg)
theorem KeepsBut.has {g:Nat} {W:World} {b o:Nat} {v:Value} (hg:b≠g) (h:W.cell? ⟨b,o,none⟩=some v):∀ w',KeepsBut g W w'->w'.cell? ⟨b,o,none⟩=some v :=
 fun _ k=>(k.cells b o (World.block_lt_of_cell? W _ h) hg).trans h
theorem KeepsBut.keeps {g:Nat} {w0 w w':World} (h:KeepsBut g w w') (k:Keeps w0 w) (hg:w0.heap.size <= g):Keeps w0 w' :=
 Below.trans k ⟨h.os,h.tape,h.output,h.size,fun i hi=>h.block i (Nat.lt_of_lt_of_le hi k.size) (by omega)⟩
theorem qaf (x lo hi:Int) (w:World) :
  Calls Tryz.prog 64 #[.int .i64 x,.int .i64 lo,.int .i64 hi] w fun e w'=>e = .returned (.bool (inB x lo hi)) /\ w'=w:=by
 by_cases h1:lo <= x
 ·by_cases h2:x <= hi
  ·have Hr:Hid (inB x lo hi=true):=qfq h1 h2
   go_enter Tryz.func64,Tryz.ntmps64
   go_wp2
   go_ret
   exact ⟨by rw [Hr.out];rfl,rfl⟩
  ·have Hr:Hid (inB x lo hi=false):=qdG (.inr (by omega))
   have hd:decide (x <= hi)=false:=by simpa using h2
   go_enter Tryz.func64,Tryz.ntmps64
   go_wp2
   go_ret
   exact ⟨by rw [Hr.out];rfl,rfl⟩
 ·have Hr:Hid (inB x lo hi=false):=qdG (.inl (by omega))
  have hd:decide (lo <= x)=false:=by simpa using h1
  go_enter Tryz.func64,Tryz.ntmps64
  go_wp2
  go_ret
  exact ⟨by rw [Hr.out];rfl,rfl⟩
def qat {α:Type} (c:α->Array Value) (xs:List α):List Value:=xs.flatMap fun x=>(c x).toList
theorem qeX {α:Type} (c:α->Array Value) (xs ys:List α):qat c (xs++ys)=qat c xs++qat c ys:=by simp [qat]
theorem qcY {α:Type} {c:α->Array Value} {sz:Nat} (hc:∀ x,(c x).size=sz) (xs:List α):(qat c xs).length=xs.length*sz:=by
 induction xs with
 | nil=>simp [qat]
 | cons x r ih =>
  have e:qat c (x::r)=(c x).toList++qat c r:=rfl
  rw [e,List.length_append,ih,List.length_cons,Nat.add_mul,Nat.one_mul,Array.length_toList,hc,Nat.add_comm]
theorem qdH {α:Type} {c:α->Array Value} {sz:Nat} (hc:∀ x,(c x).size=sz):∀ (xs:List α) (i:Nat) (x:α),xs[i]?=some x->∀ k,k < sz->(qat c xs)[i*sz+k]?=(c x)[k]?
 | [],i,x,h,_,_=>by simp at h
 | y::r,0,x,h,k,hk=>by
  simp at h
  subst h
  have e:qat c (y::r)=(c y).toList++qat c r:=rfl
  rw [e,Nat.zero_mul,Nat.zero_add,List.getElem?_append_left (by simp [hc,hk])]
  simp
 | y::r,i+1,x,h,k,hk=>by
  have ih:=qdH hc r i x (by simpa using h) k hk
  have e:qat c (y::r)=(c y).toList++qat c r:=rfl
  rw [e,List.getElem?_append_right (by simp only [Array.length_toList,hc,Nat.add_mul,Nat.one_mul];omega),<- ih]
  congr 1
  simp only [Array.length_toList,hc,Nat.add_mul,Nat.one_mul]
  omega
theorem qeq {α:Type} {c:α->Array Value} (h1:∀ x,∀ u∈(c x).toList,u.oneCell'=true) (xs:List α):∀ u∈qat c xs,u.oneCell'=true:=by
 intro u hu
 simp only [qat,List.mem_flatMap] at hu
 obtain ⟨x,_,hx⟩:=hu
 exact h1 x u hx
def Own {α:Type} (e:TypeId) (sz:Nat) (c:α->Array Value) (w:World) (base:Nat) (v:Value) (xs:List α):Prop:=w.ownsRow base e sz v xs.length (qat c xs)
theorem Own.new {α:Type} (e:TypeId) (sz:Nat) (c:α->Array Value) (w:World) {base:Nat} (hb:base <= w.heap.size):Own e sz c (w.alloc (.cells #[] e)) base (.slice (some ⟨w.heap.size,0,none⟩) 0 0) [] :=
 World.ownsRow_made w #[] 0 hb (by simp) (by simp)
theorem Own.keeps {α:Type} {e:TypeId} {sz:Nat} {c:α->Array Value} {w w':World} {base:Nat} {v:Value} {xs:List α} (h:Own e sz c w base v xs) (k:Keeps w w'):Own e sz c w' base v xs:=by
 obtain ⟨h1,h2⟩:=h
 refine ⟨h1,?_⟩
 rcases h2 with h2 | ⟨b,cap,cur,hv,hb,hh,r⟩
 ·exact .inl h2
 ·refine .inr ⟨b,cap,cur,hv,hb,?_,r⟩
  have hlt:b < w.heap.size:=by
   rcases Nat.lt_or_ge b w.heap.size with hlt | hge
   ·exact hlt
   ·rw [Array.getElem?_eq_none hge] at hh;cases hh
  rw [Below.block k b hlt];exact hh
theorem Own.alloc {α:Type} {e:TypeId} {sz:Nat} {c:α->Array Value} {w:World} {base:Nat} {v:Value} {xs:List α} (h:Own e sz c w base v xs) (o:Obj):Own e sz c (w.alloc o) base v xs:=h.keeps ((Keeps.refl w).alloc o)
theorem Own.base {α:Type} {e:TypeId} {sz:Nat} {c:α->Array Value} {w:World} {base base':Nat} {v:Value} {xs:List α} (h:Own e sz c w base v xs) (hb:base' <= base):Own e sz c w base' v xs:=by
 obtain ⟨h1,h2⟩:=h
 refine ⟨h1,?_⟩
 rcases h2 with h2 | ⟨b,cap,cur,hv,hg,r⟩
 ·exact .inl h2
 ·exact .inr ⟨b,cap,cur,hv,Nat.le_trans hb hg,r⟩
theorem Own.slice {α:Type} {e:TypeId} {sz:Nat} {c:α->Array Value} {w:World} {base:Nat} {v:Value} {xs:List α} (h:Own e sz c w base v xs) (hc:∀ x,(c x).size=sz) :
  ∃ a cap,v = .slice a xs.length cap /\ Lies sz c w a xs /\ xs.length <= cap /\ cap <= maxLen:=by
 obtain ⟨_,⟨rfl,hn⟩ | ⟨b,cap,cur,rfl,hb,hh,hl,hm,hs,hx⟩⟩:=h
 ·have:xs=[]:=List.length_eq_zero_iff.1 hn
  subst this
  exact ⟨none,0,rfl,.inl rfl,by simp,by simp⟩
 ·have hlt:b < w.heap.size:=by
   rcases Nat.lt_or_ge b w.heap.size with hlt | hge
   ·exact hlt
   ·rw [Array.getElem?_eq_none hge] at hh;cases hh
  refine ⟨_,cap,rfl,.inr ⟨b,0,rfl,hlt,fun i x hx' k hk => ?_⟩,hl,hm⟩
  have hi:i < xs.length:=by
   rcases Nat.lt_or_ge i xs.length with h | h
   ·exact h
   ·simp [List.getElem?_eq_none h] at hx'
  have hj:i*sz+k < xs.length*sz:=by
   have h1:(i+1)*sz <= xs.length*sz:=Nat.mul_le_mul_right sz hi
   rw [Nat.add_mul,Nat.one_mul] at h1
   omega
  rw [Nat.zero_add,<- qdH hc xs i x hx' k hk,<- hx]
  simp [World.cell?,hh,hj]
theorem Keeps.grown {w a b:World} {row:Option Nat} (h:Keeps w a) (hg:a.grownBy b row) (hr:∀ k,row=some k->w.heap.size <= k):Keeps w b :=
 ⟨hg.os.trans h.os,hg.tape.trans h.tape,hg.output.trans h.output,Nat.le_trans h.size hg.size,fun k hk=>(hg.block k (Nat.lt_of_lt_of_le hk h.size) (fun e=>by have:=hr k e.symm;omega)).trans (h.block k hk)⟩
variable {P:Program}
theorem qfr {α:Type} {w:World} {ops:Array Oper} {rest:List Oper} {o:Oper} {a:Act} {Q:Exit->Act->World->Prop} (hgd:o.guard=none) (s x:Operand) (t:TypeId)
  (ho:o.op = .call { callee := .builtin .append,args:=#[s,x],argTypes:=#[t,t] })
  (W0:World) (e:TypeId) (z:Value) (sz bytes:Nat) (c:α->Array Value) (ht:P.underlying t=some (.slice e)) (hinfo:(P.info? e).map (fun i=>(i.zero,i.size,i.bytes))=some (some z,sz,bytes))
  (hzs:z.cells.size=sz) (hsz:0 < sz) (hc:∀ x,(c x).size=sz) (h1:∀ x,∀ u∈(c x).toList,u.oneCell'=true)
  (v:Value) (xs:List α) (hs:a.eval s=v) (hown:Own e sz c w W0.heap.size v xs) (hk:Keeps W0 w)
  (b off cp:Nat) (ys:List α) (hx:a.eval x = .slice (some ⟨b,off,none⟩) ys.length cp) (hl:Lies sz c w (some ⟨b,off,none⟩) ys)
  (h63:xs.length+ys.length <= maxLen) (hbytes:(xs.length+ys.length)*bytes <= 140737488355328)
  (h:∀ v' w',Own e sz c w' W0.heap.size v' (xs++ys)->Keeps W0 w'->(∀ k,k < w.heap.size->some k≠v.ownBlock->w'.heap[k]?=w.heap[k]?)->wpList P ops Q rest (a.put o.dst v') w'):wpList P ops Q (o::rest) a w:=by
 obtain ⟨i,hi,hzz⟩:=Option.map_eq_some_iff.1 hinfo
 simp only [Prod.mk.injEq] at hzz
 obtain ⟨hz0,hz1,hz2⟩:=hzz
 refine wpList_append_own _ hgd s x t ho W0.heap.size e i z sz bytes ht hi hz0 hz1 hz2 hzs hsz v xs.length (qat c xs) hs hown ⟨b,off,none⟩ ys.length cp (qat c ys) hx (qcY hc ys) ?_ (qeq h1 ys) h63 hbytes hk.size ?_
 ·intro j u hj
  have hjl:j < ys.length*sz:=by
   have:=qcY hc ys
   rcases Nat.lt_or_ge j (ys.length*sz) with h | h
   ·exact h
   ·rw [List.getElem?_eq_none (by omega)] at hj;cases hj
  have hq:j / sz < ys.length:=Nat.div_lt_of_lt_mul (by rw [Nat.mul_comm];exact hjl)
  have hm:j % sz < sz:=Nat.mod_lt _ hsz
  have hjj:j / sz*sz+j % sz=j:=by rw [Nat.mul_comm];exact Nat.div_add_mod j sz
  have h2:=qdH hc ys (j / sz) ys[j / sz] (List.getElem?_eq_getElem hq) (j % sz) hm
  rw [hjj,hj] at h2
  rcases hl with hl | ⟨b',off',e',hb',hl⟩
  ·rw [hl] at hq;simp at hq
  ·simp only [Option.some.injEq,Addr.mk.injEq] at e'
   obtain ⟨rfl,rfl,-⟩:=e'
   have h3:=hl (j / sz) ys[j / sz] (List.getElem?_eq_getElem hq) (j % sz) hm
   have ea:(⟨b,off,none⟩:Addr).add j=⟨b,off+j,none⟩:=by unfold Addr.add;by_cases h:j=0 <;> simp [h]
   rw [ea,<- hjj,<- Nat.add_assoc,h3,<- h2]
 ·intro v' w' ho' hg _
  refine h v' w' ?_ (hk.grown hg fun k hk'=>(hown.lt k hk').1) hg.block
  unfold Own
  rw [qeX,List.length_append]
  exact ho'
theorem qbi {α:Type} {w:World} {ops:Array Oper} {rest:List Oper} {o:Oper} {a:Act} {Q:Exit->Act->World->Prop} (hgd:o.guard=none) (s x:Operand) (t:TypeId)
  (ho:o.op = .call { callee := .builtin .append,args:=#[s,x],argTypes:=#[t,t] })
  (W0:World) (e:TypeId) (z:Value) (sz bytes:Nat) (c:α->Array Value) (ht:P.underlying t=some (.slice e)) (hinfo:(P.info? e).map (fun i=>(i.zero,i.size,i.bytes))=some (some z,sz,bytes))
  (hzs:z.cells.size=sz) (hsz:0 < sz) (hc:∀ x,(c x).size=sz) (h1:∀ x,∀ u∈(c x).toList,u.oneCell'=true)
  (v:Value) (xs:List α) (hs:a.eval s=v) (wo:World) (hown:Own e sz c wo W0.heap.size v xs) (hk:Keeps W0 wo) (ko:Keeps wo w)
  (y:α) (b cp:Nat) (hb:Blk w b (c y)) (hx:a.eval x = .slice (some ⟨b,0,none⟩) 1 cp)
  (h63:xs.length+1 <= maxLen) (hbytes:(xs.length+1)*bytes <= 140737488355328)
  (h:∀ v' w',Own e sz c w' W0.heap.size v' (xs++[y])->Keeps W0 w'->(∀ k,k < wo.heap.size->some k≠v.ownBlock->w'.heap[k]?=wo.heap[k]?)->wpList P ops Q rest (a.put o.dst v') w'):wpList P ops Q (o::rest) a w:=by
 refine qfr hgd s x t ho W0 e z sz bytes c ht hinfo hzs hsz hc h1 v xs hs (hown.keeps ko) (hk.trans ko) b 0 cp [y] hx ?_ h63 hbytes (fun v' w' h2 h3 h4=>h v' w' h2 h3 fun k hk hne => ?_)
 ·refine .inr ⟨_,_,rfl,hb.lt,fun i x hx k hk => ?_⟩
  cases i with
  | zero=>simp at hx;subst hx;simpa using hb.cells k
  | succ i=>simp at hx
 ·rw [h4 k (Nat.lt_of_lt_of_le hk ko.size) hne]
  exact Below.block ko k hk
theorem qfs (n:Int):bits .and .i64 n 255=n % 256:=by
 have h:(BitVec.ofInt 64 255).toNat=2 ^ 8 - 1:=by decide
 have key:(BitVec.ofInt 64 n &&& BitVec.ofInt 64 255).toNat=(n % ((2 ^ 64:Nat):Int)).toNat % 2 ^ 8:=by
  rw [BitVec.toNat_and,BitVec.toNat_ofInt,h,Nat.and_two_pow_sub_one_eq_mod]
 show IntKind.i64.wrap ((BitVec.ofInt 64 n &&& BitVec.ofInt 64 255).toNat:Nat)=n % 256
 rw [key,IntKind.wrap_i64]
 omega
theorem qjy (n:Int):bits .and .i64 n 1073741823=n % 1073741824:=by
 have h:(BitVec.ofInt 64 1073741823).toNat=2 ^ 30 - 1:=by decide
 have key:(BitVec.ofInt 64 n &&& BitVec.ofInt 64 1073741823).toNat=(n % ((2 ^ 64:Nat):Int)).toNat % 2 ^ 30:=by
  rw [BitVec.toNat_and,BitVec.toNat_ofInt,h,Nat.and_two_pow_sub_one_eq_mod]
 show IntKind.i64.wrap ((BitVec.ofInt 64 n &&& BitVec.ofInt 64 1073741823).toNat:Nat)=n % 1073741824
 rw [key,IntKind.wrap_i64]
 omega
def Bytes (g:Nat) (w:World) (a:Option Addr) (n:Nat):Prop :=
 n=0∨∃ b off,a=some ⟨b,off,none⟩ /\ b < g /\ ∀ j,j < n->∃ z:Int,0 <= z /\ z <= 255 /\ w.cell? ⟨b,off+j,none⟩=some (.int .u8 z)
theorem Bytes.but {g:Nat} {w w':World} {a:Option Addr} {n:Nat} (h:Bytes g w a n) (k:KeepsBut g w w'):Bytes g w' a n:=by
 rcases h with h | ⟨b,off,rfl,hg,h⟩
 ·exact .inl h
 ·exact .inr ⟨b,off,rfl,hg,fun j hj=>by obtain ⟨z,h0,h1,hc⟩:=h j hj;exact ⟨z,h0,h1,KeepsBut.has (by omega) hc _ k⟩⟩
def Cur (w:World) (g:Nat):Prop :=
 ∃ (a:Option Addr) (n cap i:Nat) (h:Int),w.cell? ⟨g,0,none⟩=some (.slice a n cap) /\ w.cell? ⟨g,1,none⟩=some (.int .i64 i) /\ w.cell? ⟨g,2,none⟩=some (.int .i64 h) /\
  w.frozen? ⟨g,1,none⟩=false /\ w.frozen? ⟨g,2,none⟩=false /\ i <= n /\ n <= 1048576 /\ Bytes g w a n
theorem qer (w:World) (n:Nat) (a:Addr):(w.drewN n).cell? a=w.cell? a:=rfl
theorem qgy (w:World) (n:Nat) (a:Addr):(w.drewN n).frozen? a=w.frozen? a:=rfl
theorem Bytes.drewN {g:Nat} {w:World} {a:Option Addr} {n:Nat} (h:Bytes g w a n) (m:Nat):Bytes g (w.drewN m) a n:=h.but ((KeepsBut.refl g w).drewN m)
theorem Cur.drewN {w:World} {g:Nat} (h:Cur w g) (m:Nat):Cur (w.drewN m) g:=by
 obtain ⟨a,n,cap,i,h,c0,c1,c2,f1,f2,hi,hn,hb⟩:=h
 exact ⟨a,n,cap,i,h,c0,c1,c2,f1,f2,hi,hn,hb.drewN m⟩
theorem qgz {w:World} {a:Option Addr} {n cap:Nat} {h:Int} (hn:n <= 1048576) (hb:Bytes w.heap.size w a n) (t:TypeId):Cur (w.alloc (.cells #[.slice a n cap,.int .i64 0,.int .i64 h] t)) w.heap.size :=
 ⟨a,n,cap,0,h,by simp [go_sem],by simp [go_sem],by simp [go_sem],by simp [go_sem],by simp [go_sem],Nat.zero_le _,hn,hb.but ((KeepsBut.refl _ w).alloc _)⟩
theorem qgA {w:World} {g:Nat} {a:Option Addr} {n cap i:Nat} {h:Int} (c0:w.cell? ⟨g,0,none⟩=some (.slice a n cap)) (c1:w.cell? ⟨g,1,none⟩=some (.int .i64 i)) (c2:w.cell? ⟨g,2,none⟩=some (.int .i64 h))
  (f1:w.frozen? ⟨g,1,none⟩=false) (f2:w.frozen? ⟨g,2,none⟩=false) (hi:i <= n) (hn:n <= 1048576) (hb:Bytes g w a n) (h':Int) (m:Nat):Cur ((w.setCell ⟨g,2,none⟩ (.int .i64 h')).drewN m) g :=
 ⟨a,n,cap,i,h',by rw [qer,qaN (by omega),c0],by rw [qer,qaN (by omega),c1],by rw [qer,qcX c2],by rw [qgy];simp [f1],by rw [qgy];simp [f2],hi,hn,
  hb.but (((KeepsBut.refl g w).setCell _ _).drewN _)⟩
theorem qjz {w:World} {g:Nat} (hc:Cur w g) {a:Option Addr} {n cap i:Nat} (c0:w.cell? ⟨g,0,none⟩=some (.slice a n cap)) (c1:w.cell? ⟨g,1,none⟩=some (.int .i64 i)) (hi:i < n):Cur (w.setCell ⟨g,1,none⟩ (.int .i64 ((i:Int)+1))) g:=by
 obtain ⟨a',n',cap',i',h,d0,d1,d2,f1,f2,_,hn,hb⟩:=hc
 rw [c0] at d0
 rw [c1] at d1
 simp only [Option.some.injEq,Value.slice.injEq,Value.int.injEq,true_and] at d0 d1
 obtain ⟨rfl,rfl,rfl⟩:=d0
 exact ⟨a,n,cap,i+1,h,by rw [qaN (by omega),c0],by rw [qcX c1];rfl,by rw [qaN (by omega),d2],by simp [f1],by simp [f2],by omega,hn,hb.but ((KeepsBut.refl g w).setCell _ _)⟩
set_option maxHeartbeats 1000000 in
theorem qes (g:Nat) (w:World) (hc:Cur w g) :
  Calls Tryz.prog 101 #[.pointer (some ⟨g,0,none⟩)] w fun e w'=>∃ x:Int,e = .returned (.int .i64 x) /\ 0 <= x /\ x <= 255 /\ Cur w' g /\ KeepsBut g w w':=by
 obtain ⟨a,n,cap,i,h,c0,c1,c2,f1,f2,hi,hn,hb⟩:=hc
 by_cases hlt:i < n
 ·rcases hb with hb | ⟨b,off,rfl,hg,hb⟩
  ·omega
  obtain ⟨z,hz0,hz1,hcz⟩:=hb i hlt
  have hgn:g≠b:=by omega
  have hgn':b≠g:=by omega
  have hlt':(i:Int) < (n:Int):=by omega
  go_enter Tryz.func101,Tryz.ntmps101
  go_wp2
  generalize wrap64 (wrap64 (h*6364136223846793005)+1442695040888963407)=h'
  go_quiet (fail)
  go_wp2
  simp only [qfs]
  generalize bits BinOp.xor IntKind.i64 (h' / 8589934592) (h' / 35184372088832)=X
  have hx0:0 <= X % 256:=by omega
  have hx1:X % 256 <= 255:=by omega
  generalize X % 256=x at *
  go_quiet (fail)
  go_wp2
  go_quiet (fail)
  go_wp2
  simp only [qfs]
  go_ret
  refine ⟨(x+z) % 256,rfl,by omega,by omega,qjz (qgA c0 c1 c2 f1 f2 hi hn (.inr ⟨b,off,rfl,hg,hb⟩) _ _) (a:=some ⟨b,off,none⟩) (n:=n) (cap:=cap) ?_ ?_ hlt,(((KeepsBut.refl g w).setCell _ _).drewN _).setCell _ _⟩
  ·rw [qer,qaN (by omega),c0]
  ·rw [qer,qaN (by omega),c1]
 ·go_enter Tryz.func101,Tryz.ntmps101
  go_wp2
  generalize wrap64 (wrap64 (h*6364136223846793005)+1442695040888963407)=h'
  go_quiet (fail)
  go_wp2
  simp only [qfs]
  generalize bits BinOp.xor IntKind.i64 (h' / 8589934592) (h' / 35184372088832)=X
  have hx0:0 <= X % 256:=by omega
  have hx1:X % 256 <= 255:=by omega
  generalize X % 256=x at *
  go_quiet (fail)
  go_wp2
  go_ret
  exact ⟨x,rfl,hx0,hx1,(qgA c0 c1 c2 f1 f2 hi hn hb _ _).drewN _,(((KeepsBut.refl g w).setCell _ _).drewN _).drewN _⟩
set_option maxHeartbeats 1000000 in
theorem qal (g:Nat) (n:Int) (w:World) (hc:Cur w g) (h1:1 <= n) (h2:n <= 256) :
  Calls Tryz.prog 57 #[.pointer (some ⟨g,0,none⟩),.int .i64 n] w fun e w'=>∃ x:Int,e = .returned (.int .i64 x) /\ 0 <= x /\ x < n /\ Cur w' g /\ KeepsBut g w w':=by
 go_enter Tryz.func57,Tryz.ntmps57
 go_wp2_with (go_at_call 101;refine (qes g _ hc).mono ?_;rintro e w1 ⟨x,rfl,hx0,hx1,hc1,k1⟩)
 go_ret
 exact ⟨x % n,rfl,Int.emod_nonneg _ (by omega),Int.emod_lt_of_pos _ (by omega),hc1,k1⟩
theorem qjA (g:Nat) (n:Int) (w:World) (hc:Cur w g) (h1:256 < n) (h2:n <= 4611686018427387904) :
  Calls Tryz.prog 57 #[.pointer (some ⟨g,0,none⟩),.int .i64 n] w fun e w'=>∃ x:Int,e = .returned (.int .i64 x) /\ 0 <= x /\ x < n /\ Cur w' g /\ KeepsBut g w w':=by
 go_enter Tryz.func57,Tryz.ntmps57
 go_wp2_with fail
 refine (qes g _ hc).mono ?_
 rintro e w1 ⟨x1,rfl,a1,b1,hc1,k1⟩
 go_wp2_with fail
 refine (qes g _ hc1).mono ?_
 rintro e w2 ⟨x2,rfl,a2,b2,hc2,k2⟩
 go_wp2_with fail
 refine (qes g _ hc2).mono ?_
 rintro e w3 ⟨x3,rfl,a3,b3,hc3,k3⟩
 go_wp2_with fail
 refine (qes g _ hc3).mono ?_
 rintro e w4 ⟨x4,rfl,a4,b4,hc4,k4⟩
 go_wp2
 go_ret
 exact ⟨(x1*16777216+x2*65536+x3*256+x4) % n,rfl,Int.emod_nonneg _ (by omega),Int.emod_lt_of_pos _ (by omega),hc4,((k1.trans k2).trans k3).trans k4⟩
theorem qdl (g:Nat) (n:Int) (w:World) (hc:Cur w g) (h1:1 <= n) (h2:n <= 256) :
  Calls Tryz.prog 100 #[.pointer (some ⟨g,0,none⟩),.int .i64 n] w fun e w'=>∃ x:Bool,e = .returned (.bool x) /\ Cur w' g /\ KeepsBut g w w':=by
 go_enter Tryz.func100,Tryz.ntmps100
 go_wp2_with (go_at_call 57;refine (qal g _ _ hc ?_ ?_).mono ?_;omega;omega;rintro e w1 ⟨x,rfl,hx0,hx1,hc1,k1⟩)
 go_ret
 exact ⟨_,rfl,hc1,k1⟩
theorem qjB (p:Int->Prop) (g b off cap:Nat) (zs:List Int) (w:World) (hc:Cur w g) (hg:b≠g) (h1:1 <= zs.length) (h2:zs.length <= 256)
  (hz:∀ j,j < zs.length->w.cell? ⟨b,off+j,none⟩=some (.int .i64 (zs.getD j 0))) (hp:∀ z∈zs,p z) :
  Calls Tryz.prog 95 #[.pointer (some ⟨g,0,none⟩),.slice (some ⟨b,off,none⟩) zs.length cap] w fun e w'=>∃ x:Int,e = .returned (.int .i64 x) /\ p x /\ Cur w' g /\ KeepsBut g w w':=by
 generalize hn:zs.length=n at *
 have Hn:Hid (zs.length=n):=hn
 clear hn
 go_enter Tryz.func95,Tryz.ntmps95
 go_wp2_with fail
 refine (qal g _ _ hc (by omega) (by omega)).mono ?_
 rintro e w1 ⟨x,rfl,hx0,hx1,hc1,k1⟩
 obtain ⟨j,rfl⟩:=Int.eq_ofNat_of_zero_le hx0
 have hj:j < n:=by omega
 have r:=KeepsBut.has hg (hz j hj) w1 k1
 generalize hv:zs.getD j 0=v at r
 have Hv:Hid (zs.getD j 0=v):=hv
 clear hv hz
 go_wp2
 go_ret
 refine ⟨v,rfl,?_,hc1,k1⟩
 rw [<- Hv.out]
 have hj':j < zs.length:=by rw [Hn.out];exact hj
 have e:zs.getD j 0=zs[j]:=by simp [hj']
 rw [e]
 exact hp _ (List.getElem_mem hj')
theorem Cur.lt {w:World} {g:Nat} (h:Cur w g):g < w.heap.size:=by
 obtain ⟨_,_,_,_,_,c0,_⟩:=h
 exact World.block_lt_of_cell? w _ c0
theorem Cur.keeps {w w':World} {g:Nat} (h:Cur w g) (k:Keeps w w'):Cur w' g:=by
 have hl:=h.lt
 obtain ⟨a,n,cap,i,h,c0,c1,c2,f1,f2,hi,hn,hb⟩:=h
 exact ⟨a,n,cap,i,h,Keeps.has c0 _ k,Keeps.has c1 _ k,Keeps.has c2 _ k,(k.frozens g 1 hl).trans f1,(k.frozens g 2 hl).trans f2,hi,hn,hb.but (.of k)⟩
theorem Cur.setNew {w:World} {g:Nat} (h:Cur w g) {b:Nat} (hb:g < b) (o:Nat) (v:Value):Cur (w.setCell ⟨b,o,none⟩ v) g:=by
 obtain ⟨a,n,cap,i,h,c0,c1,c2,f1,f2,hi,hn,hB⟩:=h
 refine ⟨a,n,cap,i,h,by rw [qaN (by omega),c0],by rw [qaN (by omega),c1],by rw [qaN (by omega),c2],by simp [f1],by simp [f2],hi,hn,?_⟩
 rcases hB with hB | ⟨b',off,rfl,hg,hB⟩
 ·exact .inl hB
 ·exact .inr ⟨b',off,rfl,hg,fun j hj=>by obtain ⟨z,h0,h1,hc⟩:=hB j hj;exact ⟨z,h0,h1,by rw [qaN (by omega),hc]⟩⟩
theorem qcv (p:Int->Prop) (g:Nat) (zs:List Int) (C:Array Value) (t:TypeId) (n cap B:Nat) (w:World) (hB:w.heap.size=B) (hc:Cur w g) (hn:zs.length=n) (h1:1 <= n) (h2:n <= 256) (hC:C=(zs.map (Value.int .i64)).toArray) (hp:∀ z∈zs,p z) :
  Calls Tryz.prog 95 #[.pointer (some ⟨g,0,none⟩),.slice (some ⟨B,0,none⟩) n cap] (w.alloc (.cells C t)) fun e w'=>∃ x:Int,e = .returned (.int .i64 x) /\ p x /\ Cur w' g /\ KeepsBut g w w':=by
 have hl:=hc.lt
 subst hC
 subst hn
 subst hB
 refine (qjB p g w.heap.size 0 cap zs _ (hc.keeps ((Keeps.refl _).alloc _)) (by omega) h1 h2 ?_ hp).mono ?_
 ·intro j hj
  simp [go_sem,hj]
 ·rintro e w' ⟨x,rfl,hx,hc',k⟩
  exact ⟨x,rfl,hx,hc',((KeepsBut.refl g w).alloc _).trans k⟩
set_option maxHeartbeats 1000000 in
theorem qjC (a:Option Addr) (n cap:Nat) (w:World) (hn:n <= 1048576) (hb:∀ g,w.heap.size <= g->Bytes g w a n) :
  Calls Tryz.prog 54 #[.slice a n cap] w fun e w'=>∃ g,e = .returned (.pointer (some ⟨g,0,none⟩)) /\ w.heap.size <= g /\ Cur w' g /\ Keeps w w':=by
 have hb0:=hb w.heap.size (Nat.le_refl _)
 have HB:Hid (Bytes w.heap.size w a n):=hb0
 clear hb
 go_enter Tryz.func54,Tryz.ntmps54
 go_wp2
 go_loop [3,4] (fun s i=>∃ k:Nat,k <= n /\ i = .int .i64 k /\ ∃ h:Int,s = .int .i64 h /\ 0 <= h /\ h <= 1073741823) (fun _ i=>n - (intOf i).toNat)
 case atStart=>exact ⟨0,Nat.zero_le _,rfl,_,rfl,by omega,by omega⟩
 case round =>
  obtain ⟨k,hk,rfl,h,rfl,h0,h1⟩:=hrel
  by_cases hlt:k < n
  ·rcases hb0 with hb0 | ⟨b,off,rfl,hg,hz⟩
   ·omega
   obtain ⟨z,hz0,hz1,hcz⟩:=hz k hlt
   have hlt':(k:Int) < (n:Int):=by omega
   by_cases h4:k < 4000
   ·have h4':(k:Int) < 4000:=by omega
    go_wp2
    simp only [qjy]
    go_round
    case rel=>exact ⟨k+1,by omega,by go_num,_,rfl,by omega,by omega⟩
    case measure=>simp only [intOf];omega
   ·have hd:decide ((k:Int) < 4000)=false:=by simp;omega
    go_wp2
    go_ret
    exact ⟨w.heap.size,rfl,Nat.le_refl _,qgz hn HB.out _,(Keeps.refl _).alloc _⟩
  ·have hd:decide ((k:Int) < (n:Int))=false:=by simp;omega
   go_wp2
   go_ret
   exact ⟨w.heap.size,rfl,Nat.le_refl _,qgz hn HB.out _,(Keeps.refl _).alloc _⟩
theorem qgB (a:Option Addr) (n cap:Nat) (w:World) (_hn:n <= maxLen) :
  Calls Tryz.prog 14 #[.slice a n cap] w fun e w'=>e = .returned (.bool (decide (1048576 < (n:Int)))) /\ w'=w:=by
 unfold maxLen at _hn
 go_enter Tryz.func14,Tryz.ntmps14
 go_wp2
 go_ret
 exact ⟨rfl,rfl⟩
theorem Own.butG {α:Type} {e:TypeId} {sz:Nat} {c:α->Array Value} {g:Nat} {w w':World} {base:Nat} {v:Value} {xs:List α} (h:Own e sz c w base v xs) (k:KeepsBut g w w') (hg:g < base):Own e sz c w' base v xs:=by
 obtain ⟨h1,h2⟩:=h
 refine ⟨h1,?_⟩
 rcases h2 with h2 | ⟨b,cap,cur,hv,hb,hh,r⟩
 ·exact .inl h2
 ·refine .inr ⟨b,cap,cur,hv,hb,?_,r⟩
  have hlt:b < w.heap.size:=by
   rcases Nat.lt_or_ge b w.heap.size with hlt | hge
   ·exact hlt
   ·rw [Array.getElem?_eq_none hge] at hh;cases hh
  rw [k.block b hlt (by omega)];exact hh
theorem Own.some {α:Type} {e:TypeId} {sz:Nat} {c:α->Array Value} {w:World} {base:Nat} {v:Value} {xs:List α} (h:Own e sz c w base v xs) (hc:∀ x,(c x).size=sz) (hx:0 < xs.length) :
  ∃ b cap,v = .slice (Option.some ⟨b,0,none⟩) xs.length cap /\ Lies sz c w (Option.some ⟨b,0,none⟩) xs /\ xs.length <= cap /\ cap <= maxLen:=by
 obtain ⟨a,cap,rfl,l,h1,h2⟩:=h.slice hc
 obtain ⟨_,⟨e,_⟩ | ⟨b,cp,cur,e,_⟩⟩:=h
 ·simp only [Value.slice.injEq] at e;omega
 ·simp only [Value.slice.injEq] at e
  obtain ⟨rfl,-,-⟩:=e
  exact ⟨b,cap,rfl,l,h1,h2⟩
theorem KeepsBut.grown {g:Nat} {w a b:World} {row:Option Nat} (h:KeepsBut g w a) (hg:a.grownBy b row) (hr:∀ k,row=some k->w.heap.size <= k):KeepsBut g w b :=
 ⟨hg.os.trans h.os,hg.tape.trans h.tape,hg.output.trans h.output,Nat.le_trans h.size hg.size,fun k hk hkg=>(hg.block k (Nat.lt_of_lt_of_le hk h.size) (fun e=>by have:=hr k e.symm;omega)).trans (h.block k hk hkg)⟩
theorem Bytes.same {g:Nat} {w w':World} {a:Option Addr} {n:Nat} (h:Bytes g w a n) (k:∀ i,i <= g->w'.heap[i]?=w.heap[i]?):Bytes g w' a n:=by
 rcases h with h | ⟨b,off,rfl,hg,h⟩
 ·exact .inl h
 ·exact .inr ⟨b,off,rfl,hg,fun j hj=>by obtain ⟨z,h0,h1,hc⟩:=h j hj;exact ⟨z,h0,h1,(World.cell?_of_block (w:=w) (k b (by omega))).trans hc⟩⟩
theorem Cur.same {w w':World} {g:Nat} (h:Cur w g) (k:∀ i,i <= g->w'.heap[i]?=w.heap[i]?):Cur w' g:=by
 obtain ⟨a,n,cap,i,h,c0,c1,c2,f1,f2,hi,hn,hb⟩:=h
 have e:=k g (Nat.le_refl _)
 exact ⟨a,n,cap,i,h,(World.cell?_of_block (w:=w) e).trans c0,(World.cell?_of_block (w:=w) e).trans c1,(World.cell?_of_block (w:=w) e).trans c2,(World.frozen?_of_block (w:=w) e).trans f1,(World.frozen?_of_block (w:=w) e).trans f2,hi,hn,hb.same k⟩
theorem Cur.grown {w w':World} {g:Nat} {row:Option Nat} (h:Cur w g) (hg:w.grownBy w' row) (hr:∀ k,row=some k->g < k):Cur w' g:=by
 have hl:=h.lt
 exact h.same fun i hi=>hg.block i (by omega) (fun e=>by have:=hr i e.symm;omega)
variable {P:Program}
theorem qjD {α:Type} {w:World} {ops:Array Oper} {rest:List Oper} {o:Oper} {a:Act} {Q:Exit->Act->World->Prop} (hgd:o.guard=none) (s x:Operand) (t:TypeId)
  (ho:o.op = .call { callee := .builtin .append,args:=#[s,x],argTypes:=#[t,t] })
  (base:Nat) (e:TypeId) (z:Value) (sz bytes:Nat) (c:α->Array Value) (ht:P.underlying t=some (.slice e)) (hinfo:(P.info? e).map (fun i=>(i.zero,i.size,i.bytes))=some (some z,sz,bytes))
  (hzs:z.cells.size=sz) (hsz:0 < sz) (hc:∀ x,(c x).size=sz) (h1:∀ x,∀ u∈(c x).toList,u.oneCell'=true)
  (v:Value) (xs:List α) (hs:a.eval s=v) (hown:Own e sz c w base v xs) (hbase:base <= w.heap.size)
  (y:α) (b cp:Nat) (hb:Blk w b (c y)) (hx:a.eval x = .slice (some ⟨b,0,none⟩) 1 cp)
  (h63:xs.length+1 <= maxLen) (hbytes:(xs.length+1)*bytes <= 140737488355328)
  (h:∀ v' w',Own e sz c w' base v' (xs++[y])->w.grownBy w' v.ownBlock->(∀ k,v.ownBlock=some k->base <= k)->wpList P ops Q rest (a.put o.dst v') w'):wpList P ops Q (o::rest) a w:=by
 obtain ⟨i,hi,hzz⟩:=Option.map_eq_some_iff.1 hinfo
 simp only [Prod.mk.injEq] at hzz
 obtain ⟨hz0,hz1,hz2⟩:=hzz
 have hfl:qat c [y]=(c y).toList:=by simp [qat]
 refine wpList_append_own _ hgd s x t ho base e i z sz bytes ht hi hz0 hz1 hz2 hzs hsz v xs.length (qat c xs) hs hown ⟨b,0,none⟩ 1 cp (qat c [y]) hx (by rw [hfl];simp [hc]) ?_ (qeq h1 [y]) h63 hbytes hbase ?_
 ·intro j u hj
  rw [hfl] at hj
  have ea:(⟨b,0,none⟩:Addr).add j=⟨b,j,none⟩:=by unfold Addr.add;by_cases h:j=0 <;> simp [h]
  rw [ea,hb.cells]
  simpa using hj
 ·intro v' w' ho' hg _
  refine h v' w' ?_ hg (fun k hk'=>(hown.lt k hk').1)
  unfold Own
  rw [qeX,List.length_append]
  exact ho'
def putC (w:World) (b k:Nat):List Value->World
 | []=>w
 | v::r=>putC (w.setCell ⟨b,k,none⟩ v) b (k+1) r
def setL (C:Array Value) (k:Nat):List Value->Array Value
 | []=>C
 | v::r=>setL (C.setIfInBounds k v) (k+1) r
theorem qgC:∀ (L:List Value) (C:Array Value) (k i:Nat),k+L.length <= C.size->(setL C k L)[i]?=if k <= i /\ i < k+L.length then L[i - k]? else C[i]?
 | [],C,k,i,_=>by rw [if_neg (by simp)];rfl
 | v::r,C,k,i,h=>by
  simp only [List.length_cons] at h
  rw [setL,qgC r _ _ _ (by simp;omega)]
  by_cases h1:k+1 <= i /\ i < k+1+r.length
  ·rw [if_pos h1,if_pos (by simp only [List.length_cons];omega)]
   obtain ⟨j,hj⟩:∃ j,i - k=j+1:=⟨i - k - 1,by omega⟩
   rw [hj,List.getElem?_cons_succ]
   congr 1
   omega
  ·rw [if_neg h1]
   by_cases e:k=i
   ·subst e
    rw [if_pos (by simp only [List.length_cons];omega),Array.getElem?_setIfInBounds_self_of_lt (by omega)]
    simp
   ·rw [if_neg (by simp only [List.length_cons];omega),Array.getElem?_setIfInBounds_ne e]
theorem qjE {L:List Value} {C:Array Value} (h:L.length=C.size):setL C 0 L=L.toArray:=by
 apply Array.ext_getElem?
 intro i
 rw [qgC _ _ _ _ (by omega)]
 by_cases hi:i < L.length
 ·rw [if_pos (by omega)];simp
 ·rw [if_neg (by omega),Array.getElem?_eq_none (by omega),Array.getElem?_eq_none (by simp;omega)]
theorem Blk.putL {b:Nat}:∀ (L:List Value) {C:Array Value} {w:World} (k:Nat),Blk w b C->k+L.length <= C.size->Blk (putC w b k L) b (setL C k L)
 | [],_,_,_,h,_=>h
 | v::r,C,w,k,h,hk=>by
  simp only [List.length_cons] at hk
  exact Blk.putL r (k+1) (h.set k (by omega) v) (by simp;omega)
theorem Blk.putC {w:World} {b:Nat} {C:Array Value} (h:Blk w b C) (L:List Value) (hl:L.length=C.size):Blk (putC w b 0 L) b L.toArray:=by
 rw [<- qjE hl]
 exact Blk.putL L 0 h (by omega)
theorem Blk.farC {b c:Nat} {C:Array Value} (hc:c≠b):∀ (L:List Value) {w:World} (k:Nat),Blk w b C->Blk (Go.Proofs.YthpdlbcdbncnhaaGreatDoor.putC w c k L) b C
 | [],_,_,h=>h
 | v::r,_,k,h=>Blk.farC hc r (k+1) (h.far hc v)
theorem Keeps.putC {a:World} {b:Nat} (hp:a.heap.size <= b):∀ (L:List Value) {w:World} (k:Nat),Keeps a w->Keeps a (Go.Proofs.YthpdlbcdbncnhaaGreatDoor.putC w b k L)
 | [],_,_,h=>h
 | v::r,_,k,h=>Keeps.putC hp r (k+1) (h.setCell hp v)
structure Has (w:World) (b:Nat) (C:Array Value) (w':World):Prop where
 keeps:Keeps w w'
 box:Blk w' b C
theorem Has.go {w:World} {b:Nat} {C:Array Value} {w1 w2:World} (h:Has w b C w1) (k:Keeps w1 w2):Has w b C w2:=⟨h.keeps.trans k,h.box.keeps k⟩
theorem Has.put {w:World} {b:Nat} {C:Array Value} {w1:World} (h:Has w b C w1) {r:Nat} (hr:w.heap.size <= r) (hb:r≠b) (k:Nat) (L:List Value):Has w b C (putC w1 r k L):=⟨Keeps.putC hr L k h.keeps,Blk.farC hb L k h.box⟩
variable {P:Program}
end Go.Proofs.YthpdlbcdbncnhaaGreatDoor
