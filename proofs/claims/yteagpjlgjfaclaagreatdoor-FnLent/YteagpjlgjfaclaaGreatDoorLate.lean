/-
  Words for what a call leaves as it was, and for a number be
  A block that holds these cells.
  A region that draws its order and ends in one store for whi
  The contract of the model's l1In.
  Locks, as plain functions, and what holds of them.
  The program's own test whether a number lies between two.
  Locks: what is asked for and freed leaves right ones.
  What is a nice: the contract of the model's NiceOk.
  Weights and steps: the model's, and the laws' walks over co
  What every step from a walk to a given statement leans on.
  A part of time is right: contracts of the program's and of
-/
import Derived.Test.YteagpjlgjfaclaaGreatDoorRows
import Derived.WalkKit
import Derived.WalkSpells
import Derived.WalkLawsBesides
import Derived.RegionTactic
import Derived.Deep.QuietTactic
import Derived.BigQuiet
import Derived.Below
import Derived.Deep.RegionHeld3
import Derived.ProofKit
import Derived.OpenShut
import Derived.ShutString
import Derived.ChangeOld
import Derived.Lib.SmallJoins
import Derived.Laws.ResultCell
namespace Go.Proofs.YteagpjlgjfaclaaGreatDoor
set_option maxRecDepth 100000
section
open Go.RowKit
theorem jF:(∀ {α:Type} (l:List α) (i:Nat),l.toArray[i]?=l[i]?) /\ (∀ {α:Type} (a:α) (l:List α) (i:Nat),(a::l)[i+1]?=l[i]?) /\ (∀ {α:Type} (a:α) (l:List α),(a::l)[0]?=some a):=⟨fun _ _=>by simp,fun _ _ _=>by simp,fun _ _=>by simp⟩
theorem ar:(∀ (a:Act) (d:Tmp) (v:Value),a.put (some d) v={ a with tmps:=a.tmps.setIfInBounds d v }) /\ (∀ (a:Act) (v:Value),a.put none v=a) /\ (∀ {α:Type} (l:List α) (i:Nat) (a:α),l.toArray.setIfInBounds i a=(l.set i a).toArray) /\ (∀ {α:Type} (x:α) (l:List α) (a:α),(x::l).set 0 a=a::l) /\ (∀ {α:Type} (x:α) (l:List α) (i:Nat) (a:α),(x::l).set (i+1) a=x::l.set i a):=⟨fun _ _ _=>rfl,fun _ _=>rfl,fun _ _ _=>by simp,fun _ _ _=>rfl,fun _ _ _ _=>rfl⟩
theorem cU {P:Program} {ops:Array Oper} {Q:Exit->Act->World->Prop} {md:Region.Mode} {S:World->Prop} (i:Nat) {oi:Oper} {v:Value} {fuel:Nat} {listed:Array Bool} {a:Act} {w:World}
  (hi:ops[i]?=some oi:=by simp only [jF];rfl) (hb:(Region.noSelect ops&&Region.free md ops listed i&&(Region.ready md ops listed).contains i)=true:=by kernel_rfl) (hQ:∀ c a w,Q (.panic c) (a.put oi.dst v) w->Q (.panic c) a w:=by exact fun _ _ _ h=>h) (hg:Region.wanted oi (yielded ops a.tmps)=true:=by rfl) (hS:S w:=by assumption)
  (hy:∀ w,S w->(execOp a.eval oi).run P w = .ok (.value v) w:=by intro w _;go_simp;try (with_reducible rfl)) (h:wpAnyH P md ops Q S fuel (listed.setIfInBounds i true) (a.put oi.dst v) w):wpAnyH P md ops Q S (fuel+1) listed a w:=by
 simp only [Bool.and_eq_true] at hb
 exact wpAnyH_take hi hb.1.1 hb.1.2 hb.2 hQ (Or.inl ⟨hg,hy⟩) hS h
theorem LS {P:Program} {ops:Array Oper} {Q:Exit->Act->World->Prop} {md:Region.Mode} {S:World->Prop} (i:Nat) {oi:Oper} {fuel:Nat} {listed:Array Bool} {a:Act} {w:World}
  (hi:ops[i]?=some oi:=by simp only [jF];rfl) (hb:(Region.noSelect ops&&Region.free md ops listed i&&(Region.ready md ops listed).contains i)=true:=by kernel_rfl) (hQ:∀ c a w,Q (.panic c) (a.put oi.dst undef) w->Q (.panic c) a w:=by exact fun _ _ _ h=>h) (hg:Region.wanted oi (yielded ops a.tmps)=false:=by rfl) (hS:S w:=by assumption)
  (h:wpAnyH P md ops Q S fuel (listed.setIfInBounds i true) (a.put oi.dst undef) w):wpAnyH P md ops Q S (fuel+1) listed a w:=by
 simp only [Bool.and_eq_true] at hb
 exact wpAnyH_take hi hb.1.1 hb.1.2 hb.2 hQ (Or.inr ⟨hg,rfl⟩) hS h
theorem aO {P:Program} {ops:Array Oper} {Q:Exit->Act->World->Prop} {md:Region.Mode} {S:World->Prop} (i:Nat) {o:Oper} {fuel:Nat} {listed:Array Bool} {a:Act} {w:World}
  (hr:Region.ready md ops listed=[i]:=by kernel_rfl) (ho:ops[i]?=some o:=by simp only [jF];rfl)
  (h:∀ K':Act->World->Prop,Shut (∀ a w,S w->(S w->wpAnyH P md ops Q S fuel (listed.setIfInBounds i true) a w)->K' a w)->if Region.wanted o (yielded ops a.tmps)=true then Oper.wp P o a w K' Q else K' (a.put o.dst undef) w):wpAnyH P md ops Q S (fuel+1) listed a w :=
 wpAnyH_ready hr (by simp) (AllReadyH.cons ho h AllReadyH.nil)
def Quiet (w w':World):Prop:=∃ n,w'=w.drewN n
def ad (_:List Nat) (p:Prop):Prop:=p
theorem ad.go (L:List Nat) {p:Prop} (h:ad L p):p:=h
theorem ad.nil {p:Prop} (h:p):ad [] p:=h
theorem aJ {P:Program} {ops:Array Oper} {Q:Exit->Act->World->Prop} {md:Region.Mode} {S:World->Prop} {i:Nat} {L:List Nat} {oi:Oper} {v:Value} {fuel:Nat} {listed:Array Bool} {a:Act} {w:World}
  (hi:ops[i]?=some oi:=by simp only [jF];rfl) (hb:(Region.noSelect ops&&Region.free md ops listed i&&(Region.ready md ops listed).contains i)=true:=by kernel_rfl) (hQ:∀ c a w,Q (.panic c) (a.put oi.dst v) w->Q (.panic c) a w:=by exact fun _ _ _ h=>h) (hg:Region.wanted oi (yielded ops a.tmps)=true:=by rfl) (hS:S w:=by assumption)
  (hy:∀ w,S w->(execOp a.eval oi).run P w = .ok (.value v) w:=by intro w _;go_simp;try (with_reducible rfl)) (h:ad L (wpAnyH P md ops Q S fuel (listed.setIfInBounds i true) (a.put oi.dst v) w)):ad (i::L) (wpAnyH P md ops Q S (fuel+1) listed a w):=cU i hi hb hQ hg hS hy h
theorem dB {P:Program} {ops:Array Oper} {Q:Exit->Act->World->Prop} {md:Region.Mode} {S:World->Prop} {i:Nat} {L:List Nat} {oi:Oper} {fuel:Nat} {listed:Array Bool} {a:Act} {w:World}
  (hi:ops[i]?=some oi:=by simp only [jF];rfl) (hb:(Region.noSelect ops&&Region.free md ops listed i&&(Region.ready md ops listed).contains i)=true:=by kernel_rfl) (hQ:∀ c a w,Q (.panic c) (a.put oi.dst undef) w->Q (.panic c) a w:=by exact fun _ _ _ h=>h) (hg:Region.wanted oi (yielded ops a.tmps)=false:=by rfl) (hS:S w:=by assumption)
  (h:ad L (wpAnyH P md ops Q S fuel (listed.setIfInBounds i true) (a.put oi.dst undef) w)):ad (i::L) (wpAnyH P md ops Q S (fuel+1) listed a w):=LS i hi hb hQ hg hS h
theorem Quiet.refl (w:World):Quiet w w:=⟨0,rfl⟩
theorem Quiet.drewN {w w':World} (h:Quiet w w') (n:Nat):Quiet w (w'.drewN n):=by
 obtain ⟨m,rfl⟩:=h;exact ⟨m+n,by simp [World.drewN,Nat.add_assoc]⟩
theorem Quiet.trans {a b c:World} (h:Quiet a b) (k:Quiet b c):Quiet a c:=by
 obtain ⟨m,rfl⟩:=k;exact h.drewN m
theorem Quiet.below {w w':World} (h:Quiet w w') (B:Nat):Below B w w':=by
 obtain ⟨n,rfl⟩:=h;exact ⟨rfl,rfl,rfl,Nat.le_refl _,fun _ _=>rfl⟩
def aa (w w':World):Prop:=Below w.heap.size w w'
theorem aa.below {w w':World} (h:aa w w'):Below w.heap.size w w':=h
theorem aa.refl (w:World):aa w w:=Below.refl _ _
theorem aa.size {w w':World} (h:aa w w'):w.heap.size <= w'.heap.size:=Below.size h
theorem aa.trans {a b c:World} (h:aa a b) (k:aa b c):aa a c:=Below.trans h (Below.mono k h.size)
theorem aa.alloc {a b:World} (h:aa a b) (o:Obj):aa a (b.alloc o):=Below.alloc h h.size o
theorem aa.drew {a b:World} (h:aa a b):aa a b.drew:=Below.drew h
theorem aa.drewN {a b:World} (h:aa a b) (n:Nat):aa a (b.drewN n):=Below.trans h ⟨rfl,rfl,rfl,Nat.le_refl _,fun _ _=>rfl⟩
theorem aa.setCell {a b:World} (h:aa a b) {p:Addr} (hp:a.heap.size <= p.block) (u:Value):aa a (b.setCell p u):=Below.setCell h hp u
theorem aa.cells {w w':World} (h:aa w w'):∀ b o,b < w.heap.size->w'.cell? ⟨b,o,none⟩=w.cell? ⟨b,o,none⟩ :=
 fun b o hb=>Below.cell (p:=⟨b,o,none⟩) h hb
theorem aa.aM {w w':World} (h:aa w w'):∀ b o,b < w.heap.size->w'.frozen? ⟨b,o,none⟩=w.frozen? ⟨b,o,none⟩ :=
 fun b o hb=>Below.frozen (p:=⟨b,o,none⟩) h hb
theorem aa.rules {w w':World} (h:aa w w'):(∀ b o,b < w.heap.size->w'.cell? ⟨b,o,none⟩=w.cell? ⟨b,o,none⟩) /\ ∀ b o,b < w.heap.size->w'.frozen? ⟨b,o,none⟩=w.frozen? ⟨b,o,none⟩:=⟨h.cells,h.aM⟩
theorem aa.has {W:World} {b o:Nat} {v:Value} (h:W.cell? ⟨b,o,none⟩=some v):∀ w',aa W w'->w'.cell? ⟨b,o,none⟩=some v :=
 fun _ k=>(k.cells b o (World.block_lt_of_cell? W _ h)).trans h
def aF (x lo hi:Int):Bool:=decide (lo <= x)&&decide (x <= hi)
theorem tM {x lo hi:Int} (h:lo <= x) (h':x <= hi):aF x lo hi=true:=by simp [aF,h,h']
theorem oO {x lo hi:Int} (h:x < lo∨hi < x):aF x lo hi=false:=by
 unfold aF;rcases h with h | h
 ·rw [decide_eq_false (show ¬ lo <= x by omega)];rfl
 ·rw [decide_eq_false (show ¬ x <= hi by omega),Bool.and_false]
theorem dq {x lo hi:Int}:aF x lo hi=true↔lo <= x /\ x <= hi:=by simp [aF]
theorem mz {w:World} {b o:Nat} {u:Value} (h:w.cell? ⟨b,o,none⟩=some u) (v:Value):(w.setCell ⟨b,o,none⟩ v).cell? ⟨b,o,none⟩=some v:=World.cell?_setCell_same (h:=h) ..
theorem fp {w:World} {b o b' o':Nat} (h:b≠b'∨o≠o') (v:Value):(w.setCell ⟨b,o,none⟩ v).cell? ⟨b',o',none⟩=w.cell? ⟨b',o',none⟩:=by
 refine World.cell?_setCell_other (h := ?_) ..
 simp only [ne_eq,Addr.mk.injEq,not_and]
 intro e f;omega
structure ai (w:World) (b:Nat) (C:Array Value):Prop where
 lt:b < w.heap.size
 cells:∀ k,w.cell? ⟨b,k,none⟩=C[k]?
 aM:∀ k,w.frozen? ⟨b,k,none⟩=false
theorem ai.keeps {w w':World} {b:Nat} {C:Array Value} (h:ai w b C) (k:aa w w'):ai w' b C :=
 ⟨Nat.lt_of_lt_of_le h.lt k.size,fun i=>(k.cells b i h.lt).trans (h.cells i),fun i=>(k.aM b i h.lt).trans (h.aM i)⟩
theorem ai.new (w:World) (C:Array Value) (t:TypeId):ai (w.alloc (.cells C t)) w.heap.size C :=
 ⟨by simp [go_sem],fun k=>by simp [go_sem],fun k=>by simp [go_sem]⟩
theorem dE (w:World) (C:Array Value) (t:TypeId):∀ w',aa (w.alloc (.cells C t)) w'->∀ j,w'.cell? ⟨w.heap.size,j,none⟩=C[j]?:=fun _ k=>((ai.new w C t).keeps k).cells
theorem cZ (w:World) (o:Obj):aa w (w.alloc o):=(aa.refl w).alloc o
theorem ai.alloc {w:World} {b:Nat} {C:Array Value} (h:ai w b C) (o:Obj):ai (w.alloc o) b C:=h.keeps ((aa.refl w).alloc o)
theorem ai.far {w:World} {b c o:Nat} {C:Array Value} (h:ai w b C) (hc:c≠b) (x:Value):ai (w.setCell ⟨c,o,none⟩ x) b C :=
 ⟨by simpa using h.lt,fun k=>by rw [fp (.inl hc)];exact h.cells k,fun k=>by simpa using h.aM k⟩
theorem ai.set {w:World} {b:Nat} {C:Array Value} (h:ai w b C) (k:Nat) (hk:k < C.size) (x:Value):ai (w.setCell ⟨b,k,none⟩ x) b (C.setIfInBounds k x) :=
 ⟨by simpa using h.lt,fun i=>by
  by_cases e:k=i
  ·subst e
   rw [Array.getElem?_setIfInBounds_self_of_lt hk]
   exact mz (u:=C[k]) (by rw [h.cells];simp [hk]) _
  ·rw [fp (.inr e),h.cells,Array.getElem?_setIfInBounds_ne e],fun i=>by simpa using h.aM i⟩
section
variable {P:Program} {ops:Array Oper} {Q:Exit->Act->World->Prop} {md:Region.Mode} {S:World->Prop} {L:Nat}
def kt (P:Program) (md:Region.Mode) (ops:Array Oper) (Q:Exit->Act->World->Prop) (S:World->Prop) (L:Nat):Nat->Array Bool->Act->World->Prop
 | 0,listed,a,w=>Region.ready md ops listed=[] /\ Q .normal a w
 | n+1,listed,a,w=>(Region.ready md ops listed=[]->Q .normal a w) /\ ∀ i∈Region.ready md ops listed,wpOp P ops Q i (fun a' w'=>(i≠L->S w') /\ kt P md ops Q S L n (listed.setIfInBounds i true) a' w') a w
theorem BD:∀ (n:Nat) (listed:Array Bool) (a:Act) (w:World),kt P md ops Q S L n listed a w->wpAny P md ops Q n listed a w
 | 0,_,_,_,h=>h
 | n+1,_,_,_,h=>⟨h.1,fun i hi=>wpOp_mono (fun a' w' h'=>BD n _ a' w' h'.2) (h.2 i hi)⟩
def qc2 (md:Region.Mode) (ops:Array Oper) (L i:Nat):Bool:=match ops[L]? with
 | some o=>o.after.any fun e=>Region.binds md e&&e.on==i
 | none=>true
theorem wa {i:Nat} {listed:Array Bool} (h:qc2 md ops L i=true) (hi:i∈Region.ready md ops listed):L ∉ Region.ready md ops listed:=by
 intro hL
 obtain ⟨_,o,ho,hall⟩:=mem_ready.1 hL
 unfold qc2 at h
 rw [ho] at h
 obtain ⟨e,he,h2⟩:=Array.any_eq_true'.1 h
 simp only [Bool.and_eq_true,beq_iff_eq] at h2
 have h1:=hall e he h2.1
 have h0:=(mem_ready.1 hi).1
 rw [h2.2] at h1
 rcases Nat.lt_or_ge i listed.size with h' | h'
 ·simp [h'] at h0 h1;rw [h0] at h1;cases h1
 ·simp [Array.getElem?_eq_none h'] at h1
theorem BE {i:Nat} {oi:Oper} {v:Value} (hi:ops[i]?=some oi) (hsel:∀ (j:Nat) (o:Oper) cs b,ops[j]?=some o->o.op ≠ .select cs b) (hL:qc2 md ops L i=true)
  (hQ:∀ c a w,Q (.panic c) (a.put oi.dst v) w->Q (.panic c) a w) :
  ∀ (n:Nat) (listed:Array Bool) (a:Act) (w:World),(∀ j oj,ops[j]?=some oj->j≠i->listed.getD j true=false->(∀ e∈oj.after,Region.binds md e=true->e.on≠i)->oi.apart ops oj=true) ->
   i∈Region.ready md ops listed->YieldsIf P ops S oi v a->S w->kt P md ops Q S L n (listed.setIfInBounds i true) (a.put oi.dst v) w->kt P md ops Q S L (n+1) listed a w
 | 0,listed,a,w,_,hr,hy,hS,H=>by
  refine ⟨fun h=>(by rw [h] at hr;cases hr),fun j hj => ?_⟩
  by_cases hji:j=i
  ·subst hji;exact hy.wpOp hi hS ⟨fun _=>hS,H⟩
  ·have:=ready_mono hj hji
   rw [H.1] at this
   cases this
 | n+1,listed,a,w,hfree,hr,hy,hS,H=>by
  refine ⟨fun h=>(by rw [h] at hr;cases hr),fun j hj => ?_⟩
  by_cases hji:j=i
  ·subst hji;exact hy.wpOp hi hS ⟨fun _=>hS,H⟩
  ·have rW:j≠L:=fun e=>wa hL hr (e ▸ hj)
   have h1:=H.2 j (ready_mono hj hji)
   obtain ⟨hjun,oj,hoj,hall⟩:=mem_ready.1 hj
   have hnot:∀ e∈oj.after,Region.binds md e=true->e.on≠i:=fun e he hb heq=>by
    have h1:=hall e he hb
    have h0:=(mem_ready.1 hr).1
    rw [heq] at h1
    rcases Nat.lt_or_ge i listed.size with h' | h'
    ·simp [h'] at h0 h1;rw [h0] at h1;cases h1
    ·simp [Array.getElem?_eq_none h'] at h1
   have h2:=wpOp_putIf hoj (hfree j oj hoj hji hjun hnot) (fun cs b=>hsel i oi cs b hi) (fun cs b=>hsel j oj cs b hoj) hQ hy h1
   have hfree':∀ k ok,ops[k]?=some ok->k≠i->(listed.setIfInBounds j true).getD k true=false->(∀ e∈ok.after,Region.binds md e=true->e.on≠i)->oi.apart ops ok=true:=fun k ok hk hki hun hno=>by
    refine hfree k ok hk hki ?_ hno
    by_cases hjk:j=k
    ·subst hjk;exact hjun
    ·rw [getD_set_ne true hjk] at hun;exact hun
   refine wpOp_mono (fun a' w' h3=>⟨h3.2.1,BE hi hsel hL hQ n (listed.setIfInBounds j true) a' w' hfree' (ready_mono hr (Ne.symm hji)) h3.1 (h3.2.1 rW) ?_⟩) h2
   rw [Array.setIfInBounds_comm _ _ hji]
   exact h3.2.2
theorem LU {i:Nat} {oi:Oper} {v:Value} {n:Nat} {listed:Array Bool} {a:Act} {w:World} (hi:ops[i]?=some oi)
  (hs:Region.noSelect ops=true) (hf:Region.free md ops listed i=true) (hr:(Region.ready md ops listed).contains i=true) (hL:qc2 md ops L i=true)
  (hQ:∀ c a w,Q (.panic c) (a.put oi.dst v) w->Q (.panic c) a w) (hy:YieldsIf P ops S oi v a) (hS:S w)
  (h:kt P md ops Q S L n (listed.setIfInBounds i true) (a.put oi.dst v) w):kt P md ops Q S L (n+1) listed a w :=
 BE hi (Region.noSelect_spec hs) hL hQ n listed a w (Region.free_spec hi hf) (by simpa using hr) hy hS h
theorem iB {i:Nat} {R:List Nat} {oi:Oper} {v:Value} {n:Nat} {listed:Array Bool} {a:Act} {w:World} (hi:ops[i]?=some oi:=by simp only [jF];rfl)
  (hb:(Region.noSelect ops&&Region.free md ops listed i&&(Region.ready md ops listed).contains i&&qc2 md ops L i)=true:=by kernel_rfl) (hQ:∀ c a w,Q (.panic c) (a.put oi.dst v) w->Q (.panic c) a w:=by exact fun _ _ _ h=>h) (hg:Region.wanted oi (yielded ops a.tmps)=true:=by rfl) (hS:S w:=by assumption)
  (hy:∀ w,S w->(execOp a.eval oi).run P w = .ok (.value v) w:=by intro w _;go_simp;try (with_reducible rfl)) (h:ad R (kt P md ops Q S L n (listed.setIfInBounds i true) (a.put oi.dst v) w)):ad (i::R) (kt P md ops Q S L (n+1) listed a w):=by
 simp only [Bool.and_eq_true] at hb
 exact LU hi hb.1.1.1 hb.1.1.2 hb.1.2 hb.2 hQ (Or.inl ⟨hg,hy⟩) hS h
theorem hH {i:Nat} {o:Oper} {n:Nat} {listed:Array Bool} {a:Act} {w:World} (hr:Region.ready md ops listed=[i]:=by kernel_rfl) (ho:ops[i]?=some o:=by simp only [jF];rfl)
  (h:∀ K':Act->World->Prop,Shut (∀ a w,S w->(S w->kt P md ops Q S L n (listed.setIfInBounds i true) a w)->K' a w)->if Region.wanted o (yielded ops a.tmps)=true then Oper.wp P o a w K' Q else K' (a.put o.dst undef) w):kt P md ops Q S L (n+1) listed a w:=by
 refine ⟨fun e=>absurd (hr ▸ e) (by simp),fun j hj => ?_⟩
 rw [hr] at hj
 obtain rfl:j=i:=by simpa using hj
 exact wpOp_step ho (fun K' hK=>h K' (fun a w hS hW=>hK a w ⟨fun _=>hS,hW hS⟩))
theorem lP {o:Oper} {n:Nat} {listed:Array Bool} {a:Act} {w:World} (hr:Region.ready md ops listed=[L]:=by kernel_rfl) (ho:ops[L]?=some o:=by simp only [jF];rfl) (hd:Region.ready md ops (listed.setIfInBounds L true)=[]:=by kernel_rfl)
  (h:∀ K':Act->World->Prop,Shut (∀ a w,Q .normal a w->K' a w)->if Region.wanted o (yielded ops a.tmps)=true then Oper.wp P o a w K' Q else K' (a.put o.dst undef) w):kt P md ops Q S L (n+1) listed a w:=by
 refine ⟨fun e=>absurd (hr ▸ e) (by simp),fun j hj => ?_⟩
 rw [hr] at hj
 obtain rfl:j=L:=by simpa using hj
 refine wpOp_step ho (fun K' hK=>h K' (fun a w hW=>hK a w ⟨fun e=>absurd rfl e,?_⟩))
 cases n with
 | zero=>exact ⟨hd,hW⟩
 | succ n=>exact ⟨fun _=>hW,by rw [hd];simp⟩
theorem lO (L:Nat) {id:Nat} {a:Act} {w:World} (hm:P.follows .mixedOrders=true) (hS:S w.drew)
  (h:S w.drew->kt P .any ops Q S L ops.size (Array.replicate ops.size false) a w.drew):(Code.region id ops true).wp P Q a w :=
 wp_region_any hm (BD _ _ _ _ (h hS))
end
theorem bn (x lo hi:Int) (w:World) :
  Calls Tryz.prog 27 #[.int .i64 x,.int .i64 lo,.int .i64 hi] w fun e w'=>e = .returned (.bool (aF x lo hi)) /\ w'=w:=by
 by_cases h1:lo <= x
 ·by_cases h2:x <= hi
  ·have Hr:Hid (aF x lo hi=true):=tM h1 h2
   go_enter Tryz.func27,Tryz.ntmps27
   go_wp2
   go_ret
   exact ⟨by rw [Hr.out];rfl,rfl⟩
  ·have Hr:Hid (aF x lo hi=false):=oO (.inr (by omega))
   have hd:decide (x <= hi)=false:=by simpa using h2
   go_enter Tryz.func27,Tryz.ntmps27
   go_wp2
   go_ret
   exact ⟨by rw [Hr.out];rfl,rfl⟩
 ·have Hr:Hid (aF x lo hi=false):=oO (.inl (by omega))
  have hd:decide (lo <= x)=false:=by simpa using h1
  go_enter Tryz.func27,Tryz.ntmps27
  go_wp2
  go_ret
  exact ⟨by rw [Hr.out];rfl,rfl⟩
structure Lk where
 owner:Int
 waits:List Int
def hasB (xs:List Int) (x:Int):Bool:=xs.any fun y=>y==x
theorem il {xs:List Int} {x:Int}:hasB xs x=true↔x∈xs:=by simp [hasB]
theorem we {xs:List Int} {x:Int}:hasB xs x=false↔x ∉ xs:=by rw [<- il];simp
def dj (ls:List Lk) (no:Int):Option Nat:=ls.findIdx? fun l=>hasB l.waits no
def d8 (ls:List Lk) (no:Int):Int:=match dj ls no with
 | some i=>i
 | none => -1
def d7 (ls:List Lk) (i:Nat):Int:=match ls[i]? with
 | some l=>l.owner
 | none=>0
def cO (ls:List Lk):Nat->Int->List Int × Bool
 | 0,no=>([no],false)
 | f+1,no=>match dj ls no with
  | none=>([no],true)
  | some i=>(no::(cO ls f (d7 ls i)).1,(cO ls f (d7 ls i)).2)
def eV (xs:List Int) (no:Int):Nat:=(xs.filter fun y=>y==no).length
def ez:List Lk->Int->Nat
 | [],_=>0
 | l::r,no=>eV l.waits no+ez r no
def ju (ls:List Lk) (no:Int):Bool:=(cO ls (ls.length+1) no).2&&(aF no 1 1000&&ez ls no==1)
def iY (ls:List Lk) (l:Lk):Bool:=aF l.owner 0 1000&&(!(l.owner==0&&decide (0 < l.waits.length))&&l.waits.all (ju ls))
def dm (ls:List Lk):Bool:=decide (ls.length <= 5)&&ls.all (iY ls)
def fG (ls:List Lk) (no:Int):List Int:=if dm ls then (cO ls (ls.length+1) no).1 else []
def kR (ls:List Lk) (no:Int):Bool:=ls.any fun l=>no != 0&&l.owner==no
def p7 (no:Int) (l:Lk):Lk:={ l with owner:=no }
def tQ (no:Int) (l:Lk):Lk:={ l with waits:=l.waits++[no] }
def eK (xs:List Int) (x:Int):List Int:=xs.filter fun y=>y != x
def pQ (next:Int) (l:Lk):Lk:=⟨next,eK l.waits next⟩
def cl (ls:List Lk) (i no:Int):Int :=
 if !dm ls then 2 else if !aF i 0 ((ls.length:Int) - 1)||(!aF no 1 1000||decide (0 <= d8 ls no)) then 2
 else if d7 ls i.toNat==no then 3 else if d7 ls i.toNat==0 then 0 else if hasB (fG ls (d7 ls i.toNat)) no then 4 else 1
def bX (ls:List Lk) (i no:Int):List Lk :=
 if !dm ls then [] else if cl ls i no==0 then ls.modify i.toNat (p7 no) else if cl ls i no==1 then ls.modify i.toNat (tQ no) else ls
def jm (ls:List Lk) (i:Nat):List Int:=match ls[i]? with
 | some l=>l.waits
 | none=>[]
def lZ (xs:List Int) (next:Int):Bool:=if xs.length==0 then next==0 else hasB xs next
def eD (ls:List Lk) (i no next:Int):Bool :=
 dm ls&&(aF i 0 ((ls.length:Int) - 1)&&(!(no==0)&&(d7 ls i.toNat==no&&lZ (jm ls i.toNat) next)))
def dV (ls:List Lk) (i no next:Int):List Lk :=
 if !dm ls then [] else if eD ls i no next then ls.modify i.toNat (pQ next) else ls
section chains
variable {ls:List Lk}
theorem mX {no:Int} {i:Nat} (h:dj ls no=some i):∃ l,ls[i]?=some l /\ hasB l.waits no=true /\ ∀ j m,j < i->ls[j]?=some m->hasB m.waits no=false:=by
 obtain ⟨hi,h1,h2⟩:=List.findIdx?_eq_some_iff_getElem.1 h
 refine ⟨ls[i],List.getElem?_eq_getElem hi,h1,fun j m hj hm => ?_⟩
 have hj':j < ls.length:=by omega
 rw [List.getElem?_eq_getElem hj'] at hm
 cases hm
 simpa using h2 j hj
theorem rX {no:Int} (h:dj ls no=none):∀ (j:Nat) (m:Lk),ls[j]?=some m->hasB m.waits no=false:=by
 intro j m hm
 have:=List.findIdx?_eq_none_iff.1 h m (List.mem_of_getElem? hm)
 simpa using this
theorem tz {no:Int} {i:Nat} {l:Lk} (h0:ls[i]?=some l) (h1:hasB l.waits no=true) (h2:∀ j m,j < i->ls[j]?=some m->hasB m.waits no=false):dj ls no=some i:=by
 have hi:i < ls.length:=by
  rcases Nat.lt_or_ge i ls.length with h | h
  ·exact h
  ·rw [List.getElem?_eq_none h] at h0;cases h0
 refine List.findIdx?_eq_some_iff_getElem.2 ⟨hi,?_,fun j hj => ?_⟩
 ·rw [List.getElem?_eq_getElem hi] at h0;cases h0;exact h1
 ·simpa using h2 j ls[j] hj (List.getElem?_eq_getElem _)
theorem tR {no:Int} (h:∀ (j:Nat) (m:Lk),ls[j]?=some m->hasB m.waits no=false):dj ls no=none:=by
 refine List.findIdx?_eq_none_iff.2 fun m hm => ?_
 obtain ⟨j,hj,rfl⟩:=List.mem_iff_getElem.1 hm
 simpa using h j _ (List.getElem?_eq_getElem hj)
theorem gO {i:Nat} {l:Lk} (h:ls[i]?=some l):d7 ls i=l.owner:=by simp [d7,h]
theorem pt {f:Nat} {no:Int} (h:dj ls no=none):cO ls (f+1) no=([no],true):=by simp [cO,h]
theorem pw {f:Nat} {no:Int} {i:Nat} (h:dj ls no=some i):cO ls (f+1) no=(no::(cO ls f (d7 ls i)).1,(cO ls f (d7 ls i)).2):=by simp [cO,h]
def Ends (ls:List Lk) (no:Int) (c:List Int):Prop:=∃ f,cO ls f no=(c,true)
theorem Ends.cases {no:Int} {c:List Int} (h:Ends ls no c):(dj ls no=none /\ c=[no])∨∃ i r,dj ls no=some i /\ c=no::r /\ Ends ls (d7 ls i) r:=by
 obtain ⟨f,h⟩:=h
 cases f with
 | zero=>simp [cO] at h
 | succ f =>
  cases hw:dj ls no with
  | none=>rw [pt hw] at h;cases h;exact .inl ⟨rfl,rfl⟩
  | some i =>
   rw [pw hw] at h
   simp only [Prod.mk.injEq] at h
   exact .inr ⟨i,_,rfl,h.1.symm,f,Prod.ext rfl h.2⟩
theorem Ends.stop {no:Int} (h:dj ls no=none):Ends ls no [no]:=⟨1,pt h⟩
theorem Ends.step {no:Int} {i:Nat} {r:List Int} (h:dj ls no=some i) (hr:Ends ls (d7 ls i) r):Ends ls no (no::r):=by
 obtain ⟨f,hf⟩:=hr
 exact ⟨f+1,by rw [pw h,hf]⟩
theorem Ends.one:∀ {c d:List Int} {no:Int},Ends ls no c->Ends ls no d->c=d
 | [],_,_,h,_=>by rcases h.cases with ⟨_,e⟩ | ⟨_,_,_,e,_⟩ <;> cases e
 | x::r,d,no,h,h'=>by
  rcases h.cases with ⟨hw,e⟩ | ⟨i,r',hw,e,hr⟩
  ·rcases h'.cases with ⟨_,e'⟩ | ⟨i',_,hw',_,_⟩
   ·rw [e,e']
   ·rw [hw] at hw';cases hw'
  ·cases e
   rcases h'.cases with ⟨hw',_⟩ | ⟨i',PE,hw',e',hr'⟩
   ·rw [hw] at hw';cases hw'
   ·rw [hw] at hw';cases hw'
    rw [e',Ends.one hr hr']
theorem Ends.fuel:∀ {c:List Int} {no:Int},Ends ls no c->∀ g,c.length <= g->cO ls g no=(c,true)
 | [],_,h,_,_=>by rcases h.cases with ⟨_,e⟩ | ⟨_,_,_,e,_⟩ <;> cases e
 | x::r,no,h,0,hg=>by simp at hg
 | x::r,no,h,g+1,hg=>by
  rcases h.cases with ⟨hw,e⟩ | ⟨i,r',hw,e,hr⟩
  ·rw [pt hw,e]
  ·cases e
   rw [pw hw,Ends.fuel hr g (by simpa using hg)]
theorem Ends.len {no:Int} {c:List Int} {f:Nat} (h:cO ls f no=(c,true)):Ends ls no c:=⟨f,h⟩
theorem Ends.head {no:Int} {c:List Int} (h:Ends ls no c):c[0]?=some no:=by
 rcases h.cases with ⟨_,rfl⟩ | ⟨_,_,_,rfl,_⟩ <;> rfl
theorem Ends.pos {no:Int} {c:List Int} (h:Ends ls no c):0 < c.length:=by
 rcases h.cases with ⟨_,rfl⟩ | ⟨_,_,_,rfl,_⟩ <;> simp
theorem Ends.drop:∀ {p:Nat} {c:List Int} {no y:Int},Ends ls no c->c[p]?=some y->Ends ls y (c.drop p)
 | 0,c,no,y,h,hy=>by
  rw [h.head] at hy
  cases hy
  simpa using h
 | p+1,c,no,y,h,hy=>by
  rcases h.cases with ⟨_,rfl⟩ | ⟨i,r,_,rfl,hr⟩
  ·simp at hy
  ·have:=Ends.drop (p:=p) hr (by simpa using hy)
   simpa using this
theorem Ends.nodup {c:List Int} {no:Int} (h:Ends ls no c) {p q:Nat} {y:Int} (hp:c[p]?=some y) (hq:c[q]?=some y):p=q:=by
 have e:=Ends.one (h.drop hp) (h.drop hq)
 have lp:p < c.length:=by
  rcases Nat.lt_or_ge p c.length with h | h
  ·exact h
  ·rw [List.getElem?_eq_none h] at hp;cases hp
 have lq:q < c.length:=by
  rcases Nat.lt_or_ge q c.length with h | h
  ·exact h
  ·rw [List.getElem?_eq_none h] at hq;cases hq
 have:=congrArg List.length e
 simp only [List.length_drop] at this
 omega
theorem Ends.next {c:List Int} {no:Int} (h:Ends ls no c) {p:Nat} {y z:Int} (hp:c[p]?=some y) (hz:c[p+1]?=some z):∃ i,dj ls y=some i /\ d7 ls i=z:=by
 rcases (h.drop hp).cases with ⟨_,e⟩ | ⟨i,r,hw,e,hr⟩
 ·have:(c.drop p)[1]?=some z:=by rw [List.getElem?_drop,<- hz]
  rw [e] at this;simp at this
 ·have:(c.drop p)[1]?=some z:=by rw [List.getElem?_drop,<- hz]
  rw [e] at this
  have h0:=hr.head
  simp only [List.getElem?_cons_succ] at this
  rw [h0] at this
  exact ⟨i,hw,by simpa using this⟩
theorem Ends.last {c:List Int} {no:Int} (h:Ends ls no c) {p:Nat} {y:Int} (hp:c[p]?=some y) (hl:p+1=c.length):dj ls y=none:=by
 rcases (h.drop hp).cases with ⟨hw,_⟩ | ⟨i,r,hw,e,hr⟩
 ·exact hw
 ·have:=congrArg List.length e
  have:=hr.pos
  simp only [List.length_drop,List.length_cons] at *
  omega
theorem tS:∀ (n m:Nat) (f:Nat->Nat),(∀ i,i < m->f i < n)->(∀ i j,i < m->j < m->f i=f j->i=j)->m <= n
 | 0,m,f,h,_=>by
  rcases Nat.eq_zero_or_pos m with e | e
  ·omega
  ·exact absurd (h 0 e) (Nat.not_lt_zero _)
 | n+1,m,f,h,hi=>by
  by_cases hx:∃ k,k < m /\ f k=n
  ·obtain ⟨k,hk,e⟩:=hx
   have:=tS n (m - 1) (fun i=>f (if i < k then i else i+1)) (fun i hm=>by
    split
    ·have h1:=h i (by omega)
     have h2:f i≠n:=fun h3=>by have:=hi i k (by omega) hk (h3.trans e.symm);omega
     omega
    ·have h1:=h (i+1) (by omega)
     have h2:f (i+1)≠n:=fun h3=>by have:=hi (i+1) k (by omega) hk (h3.trans e.symm);omega
     omega) (fun i j hm hj he=>by
    split at he <;> split at he <;> (have:=hi _ _ (by omega) (by omega) he;omega))
   omega
  ·have:=tS n m f (fun i hm=>by
    have h1:=h i hm
    have h2:f i≠n:=fun h3=>hx ⟨i,hm,h3⟩
    omega) hi
   omega
theorem Ends.bound {c:List Int} {no:Int} (h:Ends ls no c):c.length <= ls.length+1:=by
 have key:∀ p,p < c.length - 1->∃ i,dj ls (c.getD p 0)=some i /\ i < ls.length /\ d7 ls i=c.getD (p+1) 0:=by
  intro p hp
  have h1:c[p]?=some (c.getD p 0):=by rw [List.getD_eq_getElem?_getD,List.getElem?_eq_getElem (by omega)];rfl
  have h2:c[p+1]?=some (c.getD (p+1) 0):=by rw [List.getD_eq_getElem?_getD,List.getElem?_eq_getElem (by omega)];rfl
  obtain ⟨i,hi,ho⟩:=h.next h1 h2
  obtain ⟨l,hl,_⟩:=mX hi
  refine ⟨i,hi,?_,ho⟩
  rcases Nat.lt_or_ge i ls.length with h | h
  ·exact h
  ·rw [List.getElem?_eq_none h] at hl;cases hl
 have:=tS ls.length (c.length - 1) (fun p=>(dj ls (c.getD p 0)).getD 0) (fun p hp=>by
  obtain ⟨i,hi,hlt,_⟩:=key p hp
  simp only [hi,Option.getD_some];exact hlt) (fun p q hp hq e=>by
  obtain ⟨i,hi,_,ho⟩:=key p hp
  obtain ⟨j,hj,_,ho'⟩:=key q hq
  simp only [hi,hj,Option.getD_some] at e
  subst e
  have h1:c[p+1]?=some (c.getD (p+1) 0):=by rw [List.getD_eq_getElem?_getD,List.getElem?_eq_getElem (by omega)];rfl
  have h2:c[q+1]?=some (c.getD (q+1) 0):=by rw [List.getD_eq_getElem?_getD,List.getElem?_eq_getElem (by omega)];rfl
  rw [<- ho,ho'] at h1
  have:=h.nodup h1 h2
  omega)
 omega
theorem sR {no:Int}:(cO ls (ls.length+1) no).2=true↔∃ c,Ends ls no c:=by
 constructor
 ·intro h;exact ⟨(cO ls (ls.length+1) no).1,_,Prod.ext rfl h⟩
 ·rintro ⟨c,h⟩;rw [h.fuel _ h.bound]
theorem Ends.is {no:Int} {c:List Int} (h:Ends ls no c):cO ls (ls.length+1) no=(c,true):=h.fuel _ h.bound
end chains
theorem fR (x lo hi:Int) (w:World) :
  Calls Tryz.prog 105 #[.int .i64 x,.int .i64 lo,.int .i64 hi] w fun e w'=>e = .returned (.bool (aF x lo hi)) /\ w'=w:=by
 by_cases h1:lo <= x
 ·by_cases h2:x <= hi
  ·have Hr:Hid (aF x lo hi=true):=tM h1 h2
   go_enter Tryz.func105,Tryz.ntmps105
   go_wp2
   go_ret
   exact ⟨by rw [Hr.out];rfl,rfl⟩
  ·have Hr:Hid (aF x lo hi=false):=oO (.inr (by omega))
   have hd:decide (x <= hi)=false:=by simpa using h2
   go_enter Tryz.func105,Tryz.ntmps105
   go_wp2
   go_ret
   exact ⟨by rw [Hr.out];rfl,rfl⟩
 ·have Hr:Hid (aF x lo hi=false):=oO (.inl (by omega))
  have hd:decide (lo <= x)=false:=by simpa using h1
  go_enter Tryz.func105,Tryz.ntmps105
  go_wp2
  go_ret
  exact ⟨by rw [Hr.out];rfl,rfl⟩
theorem nF {α:Type} {xs:List α} {k:Nat} {x:α} (h:xs[k]?=some x):k < xs.length:=by
 rcases Nat.lt_or_ge k xs.length with h' | h'
 ·exact h'
 ·rw [List.getElem?_eq_none h'] at h;cases h
theorem iZ {ls:List Lk} {k i:Nat} {m y:Lk} (h:(ls.set k y)[i]?=some m):(i=k /\ m=y)∨(i≠k /\ ls[i]?=some m):=by
 by_cases e:k=i
 ·subst e
  have hl:k < ls.length:=by have:=nF h;simpa using this
  rw [List.getElem?_set_self hl] at h
  cases h;exact .inl ⟨rfl,rfl⟩
 ·rw [List.getElem?_set_ne e] at h
  exact .inr ⟨Ne.symm e,h⟩
theorem BF {ls:List Lk} {i:Nat} {l:Lk} (h:ls[i]?=some l) (f:Lk->Lk):ls.modify i f=ls.set i (f l):=by
 apply List.ext_getElem?
 intro j
 by_cases e:i=j
 ·subst e
  rw [List.getElem?_modify,List.getElem?_set_self (nF h),h]
  simp
 ·rw [List.getElem?_modify,List.getElem?_set_ne e]
  simp [e]
theorem wg {xs:List Int} {x:Int}:0 < eV xs x↔hasB xs x=true:=by
 unfold eV hasB
 rw [List.length_pos_iff_exists_mem,List.any_eq_true]
 constructor
 ·rintro ⟨y,hy⟩;rw [List.mem_filter] at hy;exact ⟨y,hy.1,hy.2⟩
 ·rintro ⟨y,h1,h2⟩;exact ⟨y,List.mem_filter.2 ⟨h1,h2⟩⟩
theorem wh {xs:List Int} {x:Int}:eV xs x=0↔hasB xs x=false:=by
 have:=wg (xs:=xs) (x:=x)
 cases h:hasB xs x
 ·rw [h] at this;simp at this;simp;exact this
 ·rw [h] at this;simp at this;simp;omega
theorem p8:∀ {ls:List Lk} {j:Nat} {l:Lk} (m:Lk) (x:Int),ls[j]?=some l->ez (ls.set j m) x+eV l.waits x=ez ls x+eV m.waits x
 | [],j,l,m,x,h=>by simp at h
 | y::r,0,l,m,x,h=>by
  simp at h
  subst h
  simp only [List.set_cons_zero,ez]
  omega
 | y::r,j+1,l,m,x,h=>by
  have:=p8 (ls:=r) (j:=j) m x (by simpa using h)
  simp only [List.set_cons_succ,ez]
  omega
theorem BG:∀ {ls:List Lk} {j:Nat} {l:Lk} (x:Int),ls[j]?=some l->eV l.waits x <= ez ls x
 | [],j,l,x,h=>by simp at h
 | y::r,0,l,x,h=>by simp at h;subst h;simp only [ez];omega
 | y::r,j+1,l,x,h=>by
  have:=BG (ls:=r) (j:=j) x (by simpa using h)
  simp only [ez];omega
theorem LV {ls:List Lk} {x:Int} (h:∀ (j:Nat) (l:Lk),ls[j]?=some l->hasB l.waits x=false):ez ls x=0:=by
 induction ls with
 | nil=>rfl
 | cons y r ih =>
  have h0:=wh.2 (h 0 y rfl)
  have h1:=ih fun j l hl=>h (j+1) l (by simpa using hl)
  simp only [ez];omega
theorem Aw {ls:List Lk} {x:Int} (h1:ez ls x=1) {i j:Nat} {l m:Lk} (hl:ls[j]?=some l) (hx:hasB l.waits x=true) (hm:ls[i]?=some m) (hij:i≠j):hasB m.waits x=false:=by
 have e:=p8 (⟨0,[]⟩:Lk) x hl
 have c0:eV ([]:List Int) x=0:=rfl
 have cp:=wg.2 hx
 rw [h1] at e
 simp only [c0] at e
 have hm':(ls.set j (⟨0,[]⟩:Lk))[i]?=some m:=by rw [List.getElem?_set_ne (Ne.symm hij)];exact hm
 have:=BG x hm'
 exact wh.1 (by omega)
structure Right (ls:List Lk):Prop where
 len:ls.length <= 5
 owner:∀ (j:Nat) (l:Lk),ls[j]?=some l->0 <= l.owner /\ l.owner <= 1000
 free:∀ (j:Nat) (l:Lk),ls[j]?=some l->l.owner=0->l.waits=[]
 no:∀ (j:Nat) (l:Lk) (x:Int),ls[j]?=some l->hasB l.waits x=true->1 <= x /\ x <= 1000
 once:∀ (j:Nat) (l:Lk) (x:Int),ls[j]?=some l->hasB l.waits x=true->ez ls x=1
 ends:∀ (j:Nat) (l:Lk) (x:Int),ls[j]?=some l->hasB l.waits x=true->∃ c,Ends ls x c
theorem lK {ls:List Lk}:dm ls=true↔Right ls:=by
 unfold dm
 simp only [Bool.and_eq_true,decide_eq_true_eq,List.all_eq_true]
 have wb:∀ x,ju ls x=true↔(∃ c,Ends ls x c) /\ (1 <= x /\ x <= 1000) /\ ez ls x=1:=by
  intro x
  unfold ju
  rw [Bool.and_eq_true,Bool.and_eq_true,sR,dq,beq_iff_eq]
 have lb:∀ l,iY ls l=true↔(0 <= l.owner /\ l.owner <= 1000) /\ (l.owner=0->l.waits=[]) /\ ∀ x,hasB l.waits x=true->ju ls x=true:=by
  intro l
  unfold iY
  rw [Bool.and_eq_true,Bool.and_eq_true,dq,List.all_eq_true]
  refine and_congr Iff.rfl (and_congr ?_ ?_)
  ·rw [Bool.not_eq_true',Bool.and_eq_false_iff]
   constructor
   ·rintro (h | h) e
    ·simp [e] at h
    ·simp at h;exact h
   ·intro h
    by_cases e:l.owner=0
    ·right;rw [h e];rfl
    ·left;simpa using e
  ·constructor
   ·intro h x hx;exact h x (il.1 hx)
   ·intro h x hx;exact h x (il.2 hx)
 constructor
 ·rintro ⟨h1,h2⟩
  have key:∀ (j:Nat) (l:Lk),ls[j]?=some l->iY ls l=true:=fun j l hl=>h2 l (List.mem_of_getElem? hl)
  exact ⟨h1,fun j l hl=>((lb l).1 (key j l hl)).1,fun j l hl=>((lb l).1 (key j l hl)).2.1,fun j l x hl hx=>((wb x).1 (((lb l).1 (key j l hl)).2.2 x hx)).2.1,fun j l x hl hx=>((wb x).1 (((lb l).1 (key j l hl)).2.2 x hx)).2.2,fun j l x hl hx=>((wb x).1 (((lb l).1 (key j l hl)).2.2 x hx)).1⟩
 ·intro R
  refine ⟨R.len,fun l hl => ?_⟩
  obtain ⟨j,hj,rfl⟩:=List.mem_iff_getElem.1 hl
  have e:=List.getElem?_eq_getElem hj
  exact (lb _).2 ⟨R.owner j _ e,R.free j _ e,fun x hx=>(wb x).2 ⟨R.ends j _ x e hx,R.no j _ x e hx,R.once j _ x e hx⟩⟩
theorem Right.chain {ls:List Lk} (R:Right ls) (x:Int):∃ c,Ends ls x c:=by
 cases h:dj ls x with
 | none=>exact ⟨_,Ends.stop h⟩
 | some i =>
  obtain ⟨l,hl,hx,_⟩:=mX h
  exact R.ends i l x hl hx
theorem LX {ls:List Lk} (R:Right ls) {x:Int} {c:List Int} (h:Ends ls x c):fG ls x=c:=by
 unfold fG
 rw [lK.2 R,h.is];rfl
theorem wi {ls ls':List Lk} {x:Int} (hl:ls'.length=ls.length) (h:∀ (j:Nat) (m m':Lk),ls[j]?=some m->ls'[j]?=some m'->hasB m'.waits x=hasB m.waits x):dj ls' x=dj ls x:=by
 have get:∀ (j:Nat) (m':Lk),ls'[j]?=some m'->∃ m,ls[j]?=some m:=fun j m' hm=>⟨ls[j]'(by have:=nF hm;omega),List.getElem?_eq_getElem _⟩
 cases hw:dj ls x with
 | none =>
  refine tR fun j m' hm => ?_
  obtain ⟨m,hm0⟩:=get j m' hm
  rw [h j m m' hm0 hm];exact rX hw j m hm0
 | some i =>
  obtain ⟨l,hl1,hx,hmin⟩:=mX hw
  have hi:i < ls'.length:=by have:=nF hl1;omega
  refine tz (List.getElem?_eq_getElem hi) ?_ fun j m' hj hm => ?_
  ·rw [h i l _ hl1 (List.getElem?_eq_getElem hi)];exact hx
  ·obtain ⟨m,hm0⟩:=get j m' hm
   rw [h j m m' hm0 hm];exact hmin j m hj hm0
theorem BH {ls ls':List Lk} (hw:∀ x,dj ls' x=dj ls x) (ho:∀ (x:Int) (i:Nat),dj ls x=some i->d7 ls' i=d7 ls i):∀ {c:List Int} {x:Int},Ends ls x c->Ends ls' x c
 | [],_,h=>by rcases h.cases with ⟨_,e⟩ | ⟨_,_,_,e,_⟩ <;> cases e
 | y::r,x,h=>by
  rcases h.cases with ⟨h1,e⟩ | ⟨i,r',h1,e,hr⟩
  ·rw [e];exact Ends.stop ((hw x).trans h1)
  ·cases e
   refine Ends.step ((hw _).trans h1) ?_
   rw [ho _ i h1]
   exact BH hw ho hr
theorem wj {ls:List Lk} {j i:Nat} {m:Lk} (h:i≠j):d7 (ls.set j m) i=d7 ls i:=by
 unfold d7
 rw [List.getElem?_set_ne (Ne.symm h)]
theorem BI {ls:List Lk} {j:Nat} {m:Lk} (h:j < ls.length):d7 (ls.set j m) j=m.owner:=by
 unfold d7
 rw [List.getElem?_set_self h]
theorem Right.owned {ls:List Lk} (R:Right ls) {j:Nat} {l:Lk} (hl:ls[j]?=some l) (hw:l.waits=[]) {o:Int} (ho:0 <= o /\ o <= 1000):Right (ls.set j ⟨o,[]⟩):=by
 have hj:=nF hl
 have rY:∀ x,dj (ls.set j ⟨o,[]⟩) x=dj ls x:=fun x=>wi (by simp) fun i m m' hm hm'=>by
  rcases iZ hm' with ⟨rfl,rfl⟩ | ⟨_,h⟩
  ·rw [hl] at hm;cases hm;rw [hw]
  ·rw [hm] at h;cases h;rfl
 have rZ:∀ {c:List Int} {x:Int},Ends ls x c->Ends (ls.set j ⟨o,[]⟩) x c:=fun h=>BH rY (fun x i hi=>wj fun e=>by
  obtain ⟨m,hm,hx,_⟩:=mX hi
  rw [e,hl] at hm;cases hm
  rw [hw] at hx;simp [hasB] at hx) h
 have iQ:∀ x,ez (ls.set j ⟨o,[]⟩) x=ez ls x:=fun x=>by
  have:=p8 (⟨o,[]⟩:Lk) x hl
  simp only [hw] at this
  omega
 refine ⟨by simpa using R.len,?_,?_,?_,?_,?_⟩
 ·intro i m hm
  rcases iZ hm with ⟨rfl,rfl⟩ | ⟨_,h⟩
  ·exact ho
  ·exact R.owner i m h
 ·intro i m hm
  rcases iZ hm with ⟨rfl,rfl⟩ | ⟨_,h⟩
  ·exact fun _=>rfl
  ·exact R.free i m h
 ·intro i m x hm hx
  rcases iZ hm with ⟨rfl,rfl⟩ | ⟨_,h⟩
  ·simp [hasB] at hx
  ·exact R.no i m x h hx
 ·intro i m x hm hx
  rw [iQ]
  rcases iZ hm with ⟨rfl,rfl⟩ | ⟨_,h⟩
  ·simp [hasB] at hx
  ·exact R.once i m x h hx
 ·intro i m x hm hx
  rcases iZ hm with ⟨rfl,rfl⟩ | ⟨_,h⟩
  ·simp [hasB] at hx
  ·obtain ⟨c,hc⟩:=R.ends i m x h hx
   exact ⟨c,rZ hc⟩
theorem BJ (xs ys:List Int) (x:Int):hasB (xs++ys) x=(hasB xs x||hasB ys x):=by simp [hasB]
section wait
variable {ls:List Lk} {j:Nat} {l:Lk} {no:Int}
theorem r6 (hl:ls[j]?=some l) (hn:dj ls no=none):(∀ x,x≠no->dj (ls.set j { l with waits:=l.waits++[no] }) x=dj ls x) /\ dj (ls.set j { l with waits:=l.waits++[no] }) no=some j:=by
 refine ⟨fun x hx=>wi (by simp) fun i m m' hm hm' => ?_,tz (List.getElem?_set_self (nF hl)) (by simp [hasB]) fun i m hi hm => ?_⟩
 ·rcases iZ hm' with ⟨rfl,rfl⟩ | ⟨_,h⟩
  ·rw [hl] at hm;cases hm
   simp only [BJ]
   have:hasB [no] x=false:=by simp [hasB];exact fun e=>hx e.symm
   rw [this,Bool.or_false]
  ·rw [hm] at h;cases h;rfl
 ·rcases iZ hm with ⟨rfl,_⟩ | ⟨_,h⟩
  ·omega
  ·exact rX hn i m h
theorem tU (hl:ls[j]?=some l) (i:Nat):d7 (ls.set j { l with waits:=l.waits++[no] }) i=d7 ls i:=by
 by_cases e:i=j
 ·subst e;rw [BI (nF hl),gO hl]
 ·exact wj e
theorem wk (hl:ls[j]?=some l) (hn:dj ls no=none):∀ {c:List Int} {x:Int},Ends ls x c->no ∉ c->Ends (ls.set j { l with waits:=l.waits++[no] }) x c
 | [],_,h,_=>by rcases h.cases with ⟨_,e⟩ | ⟨_,_,_,e,_⟩ <;> cases e
 | y::r,x,h,hc=>by
  rcases h.cases with ⟨h1,e⟩ | ⟨i,r',h1,e,hr⟩
  ·rw [e] at hc ⊢
   exact Ends.stop (((r6 hl hn).1 x (fun e=>hc (by rw [e];simp))).trans h1)
  ·cases e
   refine Ends.step (((r6 hl hn).1 _ (fun e=>hc (by rw [e];simp))).trans h1) ?_
   rw [tU hl]
   exact wk hl hn hr (fun h=>hc (List.mem_cons_of_mem _ h))
theorem BK (hl:ls[j]?=some l) (hn:dj ls no=none) {d:List Int} (hd:Ends (ls.set j { l with waits:=l.waits++[no] }) l.owner d):∀ {c:List Int} {x:Int},Ends ls x c->no∈c->Ends (ls.set j { l with waits:=l.waits++[no] }) x (c++d)
 | [],_,h,_=>by rcases h.cases with ⟨_,e⟩ | ⟨_,_,_,e,_⟩ <;> cases e
 | y::r,x,h,hc=>by
  rcases h.cases with ⟨h1,e⟩ | ⟨i,r',h1,e,hr⟩
  ·rw [e] at hc ⊢
   have ex:x=no:=by have:=List.mem_singleton.1 hc;exact this.symm
   subst ex
   refine Ends.step (r6 hl hn).2 ?_
   rw [tU hl,gO hl]
   exact hd
  ·cases e
   have hx:y≠no:=fun e=>by rw [e,hn] at h1;cases h1
   refine Ends.step (((r6 hl hn).1 y hx).trans h1) ?_
   rw [tU hl]
   refine BK hl hn hd hr ?_
   rcases List.mem_cons.1 hc with e | e
   ·exact absurd e.symm hx
   ·exact e
theorem Right.waited (R:Right ls) (hl:ls[j]?=some l) (h0:l.owner≠0) (hno:1 <= no /\ no <= 1000) (hn:dj ls no=none) {d:List Int} (hd:Ends ls l.owner d) (hnd:no ∉ d) :
  Right (ls.set j { l with waits:=l.waits++[no] }) /\ Ends (ls.set j { l with waits:=l.waits++[no] }) no (no::d):=by
 have hd':=wk hl hn hd hnd
 have e0:Ends (ls.set j { l with waits:=l.waits++[no] }) no (no::d):=by
  refine Ends.step (r6 hl hn).2 ?_
  rw [tU hl,gO hl]
  exact hd'
 have hz:∀ (i:Nat) (m:Lk),ls[i]?=some m->hasB m.waits no=false:=rX hn
 have iQ:∀ x,x≠no->ez (ls.set j { l with waits:=l.waits++[no] }) x=ez ls x:=fun x hx=>by
  have:=p8 ({ l with waits:=l.waits++[no] }:Lk) x hl
  have c:eV (l.waits++[no]) x=eV l.waits x:=by
   unfold eV
   rw [List.filter_append]
   have:([no].filter fun y=>y==x)=[]:=by simp;exact fun e=>hx e.symm
   rw [this];simp
  simp only [c] at this
  omega
 have none':ez (ls.set j { l with waits:=l.waits++[no] }) no=1:=by
  have:=p8 ({ l with waits:=l.waits++[no] }:Lk) no hl
  have c:eV (l.waits++[no]) no=eV l.waits no+1:=by unfold eV;simp
  simp only [c] at this
  have:=LV hz
  omega
 have back:∀ (i:Nat) (m:Lk) (x:Int),(ls.set j { l with waits:=l.waits++[no] })[i]?=some m->hasB m.waits x=true->x=no∨∃ (k:Nat) (m0:Lk),ls[k]?=some m0 /\ hasB m0.waits x=true:=by
  intro i m x hm hx
  rcases iZ hm with ⟨rfl,rfl⟩ | ⟨_,h⟩
  ·simp only [BJ,Bool.or_eq_true] at hx
   rcases hx with h | h
   ·exact .inr ⟨i,l,hl,h⟩
   ·left;simp [hasB] at h;exact h.symm
  ·exact .inr ⟨i,m,h,hx⟩
 refine ⟨⟨by simpa using R.len,?_,?_,?_,?_,?_⟩,e0⟩
 ·intro i m hm
  rcases iZ hm with ⟨rfl,rfl⟩ | ⟨_,h⟩
  ·exact R.owner i l hl
  ·exact R.owner i m h
 ·intro i m hm e
  rcases iZ hm with ⟨rfl,rfl⟩ | ⟨_,h⟩
  ·exact absurd e h0
  ·exact R.free i m h e
 ·intro i m x hm hx
  rcases back i m x hm hx with rfl | ⟨k,m0,h1,h2⟩
  ·exact hno
  ·exact R.no k m0 x h1 h2
 ·intro i m x hm hx
  by_cases e:x=no
  ·rw [e];exact none'
  ·rcases back i m x hm hx with h | ⟨k,m0,h1,h2⟩
   ·exact absurd h e
   ·rw [iQ x e];exact R.once k m0 x h1 h2
 ·intro i m x hm hx
  rcases back i m x hm hx with rfl | ⟨k,m0,h1,h2⟩
  ·exact ⟨_,e0⟩
  ·obtain ⟨c,hc⟩:=R.ends k m0 x h1 h2
   by_cases h:no∈c
   ·exact ⟨_,BK hl hn hd' hc h⟩
   ·exact ⟨_,wk hl hn hc h⟩
end wait
theorem jd (x:Int) (w:World) :
  Calls Tryz.prog 88 #[.int .i64 x] w fun e w'=>e = .returned (.bool (aF x (-4) 4)) /\ w'=w:=by
 go_enter Tryz.func88,Tryz.ntmps88
 go_wp2_with (go_at_call 27;refine (bn _ _ _ _).mono ?_;rintro e w' ⟨rfl,rfl⟩)
 go_ret
 exact ⟨rfl,rfl⟩
end
section
open Go.RowKit
attribute [local go_sem] aa.refl aa.alloc aa.drew aa.drewN
def r8 (x:Int):Int :=
 if x = -4 then 24 else if x = -3 then 16 else if x = -2 then 12 else if x = -1 then 8 else if x=0 then 6 else if x=1 then 4 else if x=2 then 3 else if x=3 then 2 else if x=4 then 1 else 0
def jZ (x:Int):Int :=
 if x = -4 then 2 else if x = -3 then 3 else if x = -2 then 4 else if x = -1 then 6 else if x=0 then 8 else if x=1 then 12 else if x=2 then 16 else if x=3 then 24 else if x=4 then 48 else 0
theorem nine {x:Int} (h1 : -4 <= x) (h2:x <= 4):x = -4∨x = -3∨x = -2∨x = -1∨x=0∨x=1∨x=2∨x=3∨x=4:=by omega
theorem LY {x:Int} (h:aF x (-4) 4=false):r8 x=0:=by
 have hh:¬ (-4 <= x /\ x <= 4):=fun h'=>by rw [dq.2 h'] at h;cases h
 unfold r8
 repeat rw [if_neg (by omega)]
theorem LZ {x:Int} (h:aF x (-4) 4=false):jZ x=0:=by
 have hh:¬ (-4 <= x /\ x <= 4):=fun h'=>by rw [dq.2 h'] at h;cases h
 unfold jZ
 repeat rw [if_neg (by omega)]
set_option maxHeartbeats 1000000 in
theorem L2 (x:Int) (w:World) :
  Calls Tryz.prog 225 #[.int .i64 x] w fun e w'=>e = .returned (.int .i64 (r8 x)) /\ aa w w':=by
 cases h:aF x (-4) 4
 ·have Hr:Hid (r8 x=0):=LY h
  go_enter Tryz.func225,Tryz.ntmps225
  go_wp2_with (go_at_call 88;refine (jd _ _).mono ?_;rintro e w' ⟨rfl,rfl⟩)
  go_ret
  exact ⟨by rw [Hr.out];rfl,aa.refl _⟩
 ·obtain ⟨h1,h2⟩:=dq.1 h
  rcases nine h1 h2 with rfl | rfl | rfl | rfl | rfl | rfl | rfl | rfl | rfl <;>
  ·clear h h1 h2
   go_enter Tryz.func225,Tryz.ntmps225
   go_wp2_with (go_at_call 88;refine (jd _ _).mono ?_;rintro e w' ⟨rfl,rfl⟩)
   go_ret
   exact ⟨rfl,(aa.refl _).alloc _⟩
set_option maxHeartbeats 1000000 in
theorem BP (x:Int) (w:World) :
  Calls Tryz.prog 217 #[.int .i64 x] w fun e w'=>e = .returned (.int .i64 (jZ x)) /\ aa w w':=by
 cases h:aF x (-4) 4
 ·have Hr:Hid (jZ x=0):=LZ h
  go_enter Tryz.func217,Tryz.ntmps217
  go_wp2_with (go_at_call 88;refine (jd _ _).mono ?_;rintro e w' ⟨rfl,rfl⟩)
  go_ret
  exact ⟨by rw [Hr.out];rfl,aa.refl _⟩
 ·obtain ⟨h1,h2⟩:=dq.1 h
  rcases nine h1 h2 with rfl | rfl | rfl | rfl | rfl | rfl | rfl | rfl | rfl <;>
  ·clear h h1 h2
   go_enter Tryz.func217,Tryz.ntmps217
   go_wp2_with (first
    | (go_at_call 88;refine (jd _ _).mono ?_;rintro e w' ⟨rfl,rfl⟩)
    | (go_at_call 225;refine (L2 _ _).mono ?_;rintro e w' ⟨rfl,k⟩))
   go_ret
   exact ⟨congrArg (fun z=>Ending.returned (Value.int .i64 z)) (show wrap64 (Int.tdiv 48 (r8 _))=jZ _ by kernel_rfl),k⟩
end
theorem own:ownKnob Tryz.prog.godebug=none:=by kernel_rfl
theorem laidOut:laidOutB Tryz.prog=true:=by kernel_rfl
section
open Go.RowKit
abbrev sh (q p:Int):Value := .agg #[.int .i64 q,.int .i64 p]
def okB (q p:Int):Bool:=aF p 1 40&&aF q 1 p
theorem lA {q p:Int}:okB q p=true↔(1 <= p /\ p <= 40) /\ 1 <= q /\ q <= p:=by simp [okB,dq]
theorem pT (q p:Int) (w:World) :
  Calls Tryz.prog 94 #[sh q p] w fun e w'=>e = .returned (.bool (okB q p)) /\ w'=w.alloc (.cells #[.int .i64 q,.int .i64 p] 51):=by
 by_cases h1:1 <= p
 ·by_cases h2:p <= 40
  ·by_cases h3:1 <= q
   ·by_cases h4:q <= p
    ·have Hr:Hid (okB q p=true):=lA.2 ⟨⟨h1,h2⟩,h3,h4⟩
     go_enter Tryz.func94,Tryz.ntmps94
     go_wp2
     go_ret
     exact ⟨by rw [Hr.out];rfl,rfl⟩
    ·have Hr:Hid (okB q p=false):=by
      show _=_;rw [Bool.eq_false_iff];intro h;have:=lA.1 h;omega
     have hd:decide (q <= p)=false:=by simpa using h4
     go_enter Tryz.func94,Tryz.ntmps94
     go_wp2
     go_ret
     exact ⟨by rw [Hr.out];rfl,rfl⟩
   ·have Hr:Hid (okB q p=false):=by
     show _=_;rw [Bool.eq_false_iff];intro h;have:=lA.1 h;omega
    have hd:decide (1 <= q)=false:=by simpa using h3
    go_enter Tryz.func94,Tryz.ntmps94
    go_wp2
    go_ret
    exact ⟨by rw [Hr.out];rfl,rfl⟩
  ·have Hr:Hid (okB q p=false):=by
    show _=_;rw [Bool.eq_false_iff];intro h;have:=lA.1 h;omega
   have hd:decide (p <= 40)=false:=by simpa using h2
   go_enter Tryz.func94,Tryz.ntmps94
   go_wp2
   go_ret
   exact ⟨by rw [Hr.out];rfl,rfl⟩
 ·have Hr:Hid (okB q p=false):=by
   show _=_;rw [Bool.eq_false_iff];intro h;have:=lA.1 h;omega
  have hd:decide (1 <= p)=false:=by simpa using h1
  go_enter Tryz.func94,Tryz.ntmps94
  go_wp2
  go_ret
  exact ⟨by rw [Hr.out];rfl,rfl⟩
theorem j7 (q p:Int) (w:World) :
  Calls Tryz.prog 72 #[sh q p] w fun e w'=>e = .returned (.bool (okB q p)) /\ w'=w.alloc (.cells #[.int .i64 q,.int .i64 p] 51):=by
 cases h1:aF p 1 40
 ·have Hr:Hid (okB q p=false):=by show _=_;simp [okB,h1]
  go_enter Tryz.func72,Tryz.ntmps72
  go_wp2_with (go_at_call 27;refine (bn _ _ _ _).mono ?_;rintro e w' ⟨rfl,rfl⟩)
  go_ret
  exact ⟨by rw [Hr.out];rfl,rfl⟩
 ·have Hr:Hid (okB q p=aF q 1 p):=by show _=_;simp [okB,h1]
  go_enter Tryz.func72,Tryz.ntmps72
  go_wp2_with (go_at_call 27;refine (bn _ _ _ _).mono ?_;rintro e w' ⟨rfl,rfl⟩)
  go_ret
  exact ⟨by rw [Hr.out];rfl,rfl⟩
theorem wm (q p:Int) (w:World) :
  Calls Tryz.prog 72 #[sh q p] w fun e w'=>e = .returned (.bool (okB q p)) /\ aa w w' :=
 (j7 q p w).mono (by rintro e w' ⟨rfl,rfl⟩;exact ⟨rfl,(aa.refl _).alloc _⟩)
end
end Go.Proofs.YteagpjlgjfaclaaGreatDoor
