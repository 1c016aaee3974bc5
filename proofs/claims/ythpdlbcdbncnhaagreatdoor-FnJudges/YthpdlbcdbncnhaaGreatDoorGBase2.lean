/-
  Rows of numbers: the laws' own helpers over them. An elemen
-/
import Derived.Test.YthpdlbcdbncnhaaGreatDoorGBase1
import Derived.Test.YthpdlbcdbncnhaaGreatDoorGPure1
import Derived.Deep.RegionLaw
import Derived.BigRegion
import Derived.Deep.RegionHeld3
import Derived.WalkMore
import Derived.Test.YthpdlbcdbncnhaaGreatDoorRows
import Derived.WalkKit
import Derived.ProofKit
import Derived.OpenShut
import Derived.ShutString
import Derived.ChangeOld
import Derived.Lib.SmallJoins
import Derived.Maps.OwnSet
namespace Go.Proofs.YthpdlbcdbncnhaaGreatDoor
set_option maxRecDepth 100000
open Go.RowKit
attribute [local go_sem] Keeps.refl Keeps.alloc Keeps.drew Keeps.drewN
theorem qai {α:Type} {xs:List α} {k:Nat} (h:k < xs.length):∃ x,xs[k]?=some x:=⟨xs[k],List.getElem?_eq_getElem h⟩
theorem qas {α:Type} {xs:List α} {k:Nat} {x:α} (h:xs[k]?=some x):k < xs.length:=by
 rcases Nat.lt_or_ge k xs.length with h' | h'
 ·exact h'
 ·rw [List.getElem?_eq_none h'] at h;cases h
abbrev ic (x:Int):Array Value:=#[.int .i64 x]
theorem qaZ (x:Int):(ic x).size=1:=rfl
theorem qci (x:Int):∀ u∈(ic x).toList,u.oneCell'=true:=by
 intro u hu
 simp at hu
 subst hu
 rfl
def Ns (w:World) (a:Option Addr) (xs:List Int):Prop:=xs=[]∨∃ b off,a=some ⟨b,off,none⟩ /\ b < w.heap.size /\ ∀ i x,xs[i]?=some x->w.cell? ⟨b,off+i,none⟩=some (.int .i64 x)
theorem Ns.keeps {w w':World} {a:Option Addr} {xs:List Int} (h:Ns w a xs) (k:Keeps w w'):Ns w' a xs:=by
 rcases h with h | ⟨b,off,rfl,hb,h⟩
 ·exact .inl h
 ·exact .inr ⟨b,off,rfl,Nat.lt_of_lt_of_le hb k.size,fun i x hx=>(k.cells _ _ hb).trans (h i x hx)⟩
theorem Ns.at {w:World} {a:Option Addr} {xs:List Int} (h:Ns w a xs) {i:Nat} {x:Int} (hx:xs[i]?=some x) :
  ∃ b off,a=some ⟨b,off,none⟩ /\ ∀ w',Keeps w w'->w'.cell? ⟨b,off+i,none⟩=some (.int .i64 x):=by
 rcases h with rfl | ⟨b,off,rfl,hb,h⟩
 ·simp at hx
 ·exact ⟨b,off,rfl,fun w' k=>(k.cells _ _ hb).trans (h i x hx)⟩
theorem Ns.of_lies {w:World} {a:Option Addr} {xs:List Int} (h:Lies 1 ic w a xs):Ns w a xs:=by
 rcases h with h | ⟨b,off,rfl,hb,h⟩
 ·exact .inl h
 ·exact .inr ⟨b,off,rfl,hb,fun i x hx=>by simpa using h i x hx 0 (by omega)⟩
theorem Ns.lies {w:World} {a:Option Addr} {xs:List Int} (h:Ns w a xs):Lies 1 ic w a xs:=by
 rcases h with h | ⟨b,off,rfl,hb,h⟩
 ·exact .inl h
 ·refine .inr ⟨b,off,rfl,hb,fun i x hx k hk => ?_⟩
  obtain rfl:k=0:=by omega
  simpa using h i x hx
abbrev OwnN (w:World) (base:Nat) (v:Value) (xs:List Int):Prop:=Own 3 1 ic w base v xs
theorem OwnN.ns {w:World} {base:Nat} {v:Value} {xs:List Int} (h:OwnN w base v xs):∃ a cap,v = .slice a xs.length cap /\ Ns w a xs /\ xs.length <= cap /\ cap <= maxLen:=by
 obtain ⟨a,cap,e,l,h1,h2⟩:=h.slice qaZ
 exact ⟨a,cap,e,.of_lies l,h1,h2⟩
end Go.Proofs.YthpdlbcdbncnhaaGreatDoor
namespace Go.Proofs.YthpdlbcdbncnhaaGreatDoor
set_option maxRecDepth 100000
open Go.RowKit
def qcZ (xs:List Value) (k:Nat):List Value->List Value
 | []=>xs
 | v::r=>qcZ (xs.set k v) (k+1) r
theorem qft (A:List Value):∀ (L B:List Value) (k:Nat),qcZ (A++B) (A.length+k) L=A++qcZ B k L
 | [],_,_=>rfl
 | v::r,B,k=>by
  rw [qcZ,qcZ,List.set_append_right _ _ (by omega),Nat.add_assoc,show A.length+k - A.length=k by omega]
  exact qft A r (B.set k v) (k+1)
theorem qgD:∀ (L A B:List Value),A.length=L.length->qcZ (A++B) 0 L=L++B
 | [],A,B,h=>by
  have:A=[]:=List.length_eq_zero_iff.1 h
  subst this
  rfl
 | v::r,[],B,h=>by simp at h
 | v::r,a::A,B,h=>by
  have h1:=qft [v] r (A++B) 0
  have h2:=qgD r A B (by simpa using h)
  rw [qcZ]
  simp only [List.cons_append,List.set_cons_zero,List.nil_append,List.length_singleton,Nat.add_zero,Nat.zero_add] at h1 ⊢
  rw [h1,h2]
theorem qgE {α:Type} {c:α->Array Value} {sz:Nat} (hc:∀ x,(c x).size=sz) (x:α):∀ (xs:List α) (i:Nat),i < xs.length->qcZ (qat c xs) (i*sz) (c x).toList=qat c (xs.set i x)
 | [],i,h=>by simp at h
 | y::r,0,_=>by
  have e:qat c (y::r)=(c y).toList++qat c r:=rfl
  have e':qat c ((y::r).set 0 x)=(c x).toList++qat c r:=rfl
  rw [e,e',Nat.zero_mul]
  exact qgD _ _ _ (by simp [hc])
 | y::r,i+1,h=>by
  have e:qat c (y::r)=(c y).toList++qat c r:=rfl
  have e':qat c ((y::r).set (i+1) x)=(c y).toList++qat c (r.set i x):=rfl
  have hl:(i+1)*sz=(c y).toList.length+i*sz:=by rw [Array.length_toList,hc,Nat.add_mul,Nat.one_mul,Nat.add_comm]
  rw [e,e',hl,qft,qgE hc x r i (by simpa using h)]
theorem qgF {base:Nat} {e:TypeId} {size g n cap:Nat}:∀ (L:List Value) (w:World) (k:Nat) (xs:List Value),w.ownsRow base e size (.slice (some ⟨g,0,none⟩) n cap) n xs ->
  (putC w g k L).ownsRow base e size (.slice (some ⟨g,0,none⟩) n cap) n (qcZ xs k L)
 | [],_,_,_,h=>h
 | v::r,_,k,_,h=>qgF r _ (k+1) _ (h.stored k v).1
theorem Own.put {α:Type} {e:TypeId} {sz:Nat} {c:α->Array Value} {w:World} {base b cap:Nat} {xs:List α} (hc:∀ x,(c x).size=sz) (h:Own e sz c w base (.slice (Option.some ⟨b,0,none⟩) xs.length cap) xs) {i:Nat} (hi:i < xs.length) (x:α) :
  Own e sz c (putC w b (i*sz) (c x).toList) base (.slice (Option.some ⟨b,0,none⟩) (xs.set i x).length cap) (xs.set i x):=by
 unfold Own at h ⊢
 rw [<- qgE hc x xs i hi,List.length_set]
 exact qgF _ _ _ _ h
theorem qgG {P:Program} {c:Code} {Q:Exit->Act->World->Prop} {a:Act} {w:World}
  (h:c.wp P (Exit.then (fun a' w'=>c.wp P (Exit.then (fun _ _=>False) Q) a' w') Q) a w):(Code.loop c).wp P Q a w:=by
 by_cases h0:c.wp P (Exit.then (fun _ _=>False) Q) a w
 ·exact wp_loop_once h0
 ·haveI:∀ (a':Act) (w':World),Decidable (c.wp P (Exit.then (fun _ _=>False) Q) a' w'):=fun _ _=>Classical.propDecidable _
  refine wp_loop (fun a' w'=>(a'=a /\ w'=w)∨c.wp P (Exit.then (fun _ _=>False) Q) a' w') (fun a' w'=>if c.wp P (Exit.then (fun _ _=>False) Q) a' w' then 0 else 1) (.inl ⟨rfl,rfl⟩) fun a' w' hi => ?_
  by_cases h1:c.wp P (Exit.then (fun _ _=>False) Q) a' w'
  ·exact Code.wp_mono (fun e a w q=>by cases e <;> first | exact q | exact q.elim) h1
  ·rcases hi with ⟨rfl,rfl⟩ | hi
   ·refine Code.wp_mono (fun e a w q => ?_) h
    cases e <;> first | exact q | (have q':c.wp P (Exit.then (fun _ _=>False) Q) a w:=q;refine ⟨.inr q',?_⟩;rw [if_pos q',if_neg h1];exact Nat.zero_lt_one)
   ·exact absurd hi h1
theorem qet {α:Type} {P:Program} {ops:Array Oper} {o:Oper} {a:Act} {w:World} {K:Act->World->Prop} {Q:Exit->Act->World->Prop} {E:Prop}
  (hg:o.guard=none) (s x:Operand) (t:TypeId) (hop:o.op=Op.call { callee:=Callee.builtin Builtin.append,args:=#[s,x],argTypes:=#[t,t] })
  (base:Nat) (e:TypeId) (z:Value) (sz bytes:Nat) (c:α->Array Value) (ht:P.underlying t=some (.slice e)) (hinfo:(P.info? e).map (fun i=>(i.zero,i.size,i.bytes))=some (some z,sz,bytes))
  (hzs:z.cells.size=sz) (hsz:0 < sz) (hc:∀ x,(c x).size=sz) (h1:∀ x,∀ u∈(c x).toList,u.oneCell'=true)
  (v:Value) (xs:List α) (hs:a.eval s=v) (hown:Own e sz c w base v xs) (hbase:base <= w.heap.size)
  (y:α) (b cp:Nat) (hb:Blk w b (c y)) (hx:a.eval x = .slice (some ⟨b,0,none⟩) 1 cp)
  (h63:xs.length+1 <= maxLen) (hbytes:(xs.length+1)*bytes <= 140737488355328)
  (hK:∀ v' w',Own e sz c w' base v' (xs++[y])->w.grownBy w' v.ownBlock->K (a.put o.dst v') w') :
  if Region.wanted o (yielded ops a.tmps)=true then Oper.wp P o a w K Q else E:=by
 have hw:Region.wanted o (yielded ops a.tmps)=true:=by simp [Region.wanted,hg]
 rw [if_pos hw]
 obtain ⟨i,hi,hzz⟩:=Option.map_eq_some_iff.1 hinfo
 simp only [Prod.mk.injEq] at hzz
 obtain ⟨hz0,hz1,hz2⟩:=hzz
 have hfl:qat c [y]=(c y).toList:=by simp [qat]
 obtain ⟨v',w',hrun,r1,r2,_⟩:=run_append_own (P:=P) w base t o.type e i z sz bytes ht hi hz0 hz1 hz2 hzs hsz v xs.length (qat c xs) hown ⟨b,0,none⟩ 1 cp (qat c [y]) (by rw [hfl];simp [hc])
  (by
   intro j u hj
   rw [hfl] at hj
   have ea:(⟨b,0,none⟩:Addr).add j=⟨b,j,none⟩:=by unfold Addr.add;by_cases h:j=0 <;> simp [h]
   rw [ea,hb.cells j]
   simpa using hj) (qeq h1 [y]) h63 hbytes hbase
 unfold Oper.wp
 simp [execOp,hop,resolve,invoke,builtin,hs,hx,hrun,Result.andThen]
 refine hK v' w' ?_ r2
 unfold Own
 rw [qeX,List.length_append]
 exact r1
theorem Own.free {α:Type} {e:TypeId} {sz:Nat} {c:α->Array Value} {w:World} {base b cap n:Nat} {xs:List α} (h:Own e sz c w base (.slice (Option.some ⟨b,0,none⟩) n cap) xs):base <= b /\ b < w.heap.size /\ ∀ k,w.frozen? ⟨b,k,none⟩=false:=by
 obtain ⟨_,⟨e,_⟩ | ⟨b',cp,cur,e,hb,hh,_⟩⟩:=h
 ·simp at e
 ·simp only [Value.slice.injEq,Option.some.injEq,Addr.mk.injEq] at e
  obtain ⟨⟨rfl,-⟩,-,-⟩:=e
  have hlt:b < w.heap.size:=by
   rcases Nat.lt_or_ge b w.heap.size with hlt | hge
   ·exact hlt
   ·rw [Array.getElem?_eq_none hge] at hh;cases hh
  exact ⟨hb,hlt,fun k=>by simp [World.frozen?,hh]⟩
theorem Blk.grown {w w':World} {b:Nat} {C:Array Value} {row:Option Nat} (h:Blk w b C) (hg:w.grownBy w' row) (hr:∀ k,row=some k->k≠b):Blk w' b C:=by
 have e:=hg.block b h.lt (fun e=>hr b e.symm rfl)
 exact ⟨Nat.lt_of_lt_of_le h.lt hg.size,fun k=>(World.cell?_of_block (w:=w) e).trans (h.cells k),fun k=>(World.frozen?_of_block (w:=w) e).trans (h.frozens k)⟩
theorem qeu {b c j:Nat} (h:b≠c):∀ (Ls:List Value) (w:World) (k:Nat),(putC w b k Ls).cell? ⟨c,j,none⟩=w.cell? ⟨c,j,none⟩
 | [],_,_=>rfl
 | v::r,w,k=>(qeu h r (w.setCell ⟨b,k,none⟩ v) (k+1)).trans (qaN (.inl h) v)
theorem qfu {b j:Nat}:∀ (Ls:List Value) (w:World) (k:Nat),j < k->(putC w b k Ls).cell? ⟨b,j,none⟩=w.cell? ⟨b,j,none⟩
 | [],_,_,_=>rfl
 | v::r,w,k,h=>(qfu r (w.setCell ⟨b,k,none⟩ v) (k+1) (by omega)).trans (qaN (.inr (by omega)) v)
theorem qgH {b:Nat}:∀ (Ls:List Value) (w:World) (k:Nat),(∀ i,i < Ls.length->∃ u,w.cell? ⟨b,k+i,none⟩=some u)->∀ i,i < Ls.length->(putC w b k Ls).cell? ⟨b,k+i,none⟩=Ls[i]?
 | [],_,_,_,i,hi=>by simp at hi
 | v::r,w,k,h,0,_=>by
  obtain ⟨u,hu⟩:=h 0 (by simp)
  exact (qfu r (w.setCell ⟨b,k,none⟩ v) (k+1) (by omega)).trans (by simpa using qcX (u:=u) (by simpa using hu) v)
 | v::r,w,k,h,i+1,hi=>by
  have ih:=qgH r (w.setCell ⟨b,k,none⟩ v) (k+1) (fun j hj=>by
   obtain ⟨u,hu⟩:=h (j+1) (by simp;omega)
   exact ⟨u,by rw [qaN (.inr (by omega)),show k+1+j=k+(j+1) by omega];exact hu⟩) i (by simpa using hi)
  rw [show k+1+i=k+(i+1) by omega] at ih
  simpa [putC] using ih
theorem qfv (w:World) (a:Addr):w.drew.cell? a=w.cell? a:=rfl
theorem qgI {w:World} {b L:Nat} {A B:List Value} (hne:L < b) (hc:∀ i,i < 9->∃ u,w.cell? ⟨b,i,none⟩=some u) (hB:B.length=9) :
  (putC (putC w b 9 A) b 0 B).drew.cell? ⟨L,0,none⟩=w.cell? ⟨L,0,none⟩ /\ ∀ i,i < 9->(putC (putC w b 9 A) b 0 B).drew.cell? ⟨b,i,none⟩=B[i]?:=by
 refine ⟨?_,fun i hi => ?_⟩
 ·rw [qfv,qeu (by omega),qeu (by omega)]
 ·have:=qgH (b:=b) B (putC w b 9 A) 0 (fun j hj=>by
   obtain ⟨u,hu⟩:=hc j (by omega)
   exact ⟨u,by rw [qfu _ _ _ (by omega),Nat.zero_add];exact hu⟩) i (by omega)
  rw [Nat.zero_add] at this
  rw [qfv]
  exact this
theorem qjF {w:World} {b L j:Nat} {A B:List Value} (hne:L < b):(putC (putC w b 9 A) b 0 B).drew.cell? ⟨L,j,none⟩=w.cell? ⟨L,j,none⟩:=by
 rw [qfv,qeu (by omega),qeu (by omega)]
theorem qgJ {W0 w:World} {b:Nat} (A B:List Value) (k:Keeps W0 w) (hb:W0.heap.size <= b):Keeps W0 (putC (putC w b 9 A) b 0 B).drew :=
 (Keeps.putC (b:=b) hb B 0 (Keeps.putC (b:=b) hb A 9 k)).drew
section
variable {P:Program} {ops:Array Oper} {Q:Exit->Act->World->Prop} {md:Region.Mode} {S:World->Prop} {L:Nat}
def qcj (P:Program) (md:Region.Mode) (ops:Array Oper) (Q:Exit->Act->World->Prop) (S:World->Prop) (L:Nat):Nat->Array Bool->Act->World->Prop
 | 0,listed,a,w=>Region.ready md ops listed=[] /\ Q .normal a w
 | n+1,listed,a,w=>(Region.ready md ops listed=[]->Q .normal a w) /\ ∀ i∈Region.ready md ops listed,wpOp P ops Q i (fun a' w'=>(i≠L->S w') /\ qcj P md ops Q S L n (listed.setIfInBounds i true) a' w') a w
theorem qgK:∀ (n:Nat) (listed:Array Bool) (a:Act) (w:World),qcj P md ops Q S L n listed a w->wpAny P md ops Q n listed a w
 | 0,_,_,_,h=>h
 | n+1,_,_,_,h=>⟨h.1,fun i hi=>wpOp_mono (fun a' w' h'=>qgK n _ a' w' h'.2) (h.2 i hi)⟩
def qdm (md:Region.Mode) (ops:Array Oper) (L i:Nat):Bool:=match ops[L]? with
 | some o=>o.after.any fun e=>Region.binds md e&&e.on==i
 | none=>true
theorem qgL {i:Nat} {listed:Array Bool} (h:qdm md ops L i=true) (hi:i∈Region.ready md ops listed):L ∉ Region.ready md ops listed:=by
 intro hL
 obtain ⟨_,o,ho,hall⟩:=mem_ready.1 hL
 unfold qdm at h
 rw [ho] at h
 obtain ⟨e,he,h2⟩:=Array.any_eq_true'.1 h
 simp only [Bool.and_eq_true,beq_iff_eq] at h2
 have h1:=hall e he h2.1
 have h0:=(mem_ready.1 hi).1
 rw [h2.2] at h1
 rcases Nat.lt_or_ge i listed.size with h' | h'
 ·simp [h'] at h0 h1;rw [h0] at h1;cases h1
 ·simp [Array.getElem?_eq_none h'] at h1
theorem qgM {i:Nat} {oi:Oper} {v:Value} (hi:ops[i]?=some oi) (hsel:∀ (j:Nat) (o:Oper) cs b,ops[j]?=some o->o.op ≠ .select cs b) (hL:qdm md ops L i=true)
  (hQ:∀ c a w,Q (.panic c) (a.put oi.dst v) w->Q (.panic c) a w) :
  ∀ (n:Nat) (listed:Array Bool) (a:Act) (w:World),(∀ j oj,ops[j]?=some oj->j≠i->listed.getD j true=false->(∀ e∈oj.after,Region.binds md e=true->e.on≠i)->oi.apart ops oj=true) ->
   i∈Region.ready md ops listed->YieldsIf P ops S oi v a->S w->qcj P md ops Q S L n (listed.setIfInBounds i true) (a.put oi.dst v) w->qcj P md ops Q S L (n+1) listed a w
 | 0,listed,a,w,_,hr,hy,hS,H=>by
  refine ⟨fun h=>(by rw [h] at hr;cases hr),fun j hj => ?_⟩
  by_cases hji:j=i
  ·subst hji;exact hy.wpOp hi hS ⟨fun _=>hS,H⟩
  ·have:=ready_mono hj hji
   rw [H.1] at this
   cases this
 | n+1,listed,a,w,hfree,hr,hy,hS,H=>by
  refine ⟨fun h=>(by rw [h] at hr;cases hr),fun j hj => ?_⟩
  by_cases hji:j=i
  ·subst hji;exact hy.wpOp hi hS ⟨fun _=>hS,H⟩
  ·have hjL:j≠L:=fun e=>qgL hL hr (e ▸ hj)
   have h1:=H.2 j (ready_mono hj hji)
   obtain ⟨hjun,oj,hoj,hall⟩:=mem_ready.1 hj
   have hnot:∀ e∈oj.after,Region.binds md e=true->e.on≠i:=fun e he hb heq=>by
    have h1:=hall e he hb
    have h0:=(mem_ready.1 hr).1
    rw [heq] at h1
    rcases Nat.lt_or_ge i listed.size with h' | h'
    ·simp [h'] at h0 h1;rw [h0] at h1;cases h1
    ·simp [Array.getElem?_eq_none h'] at h1
   have h2:=wpOp_putIf hoj (hfree j oj hoj hji hjun hnot) (fun cs b=>hsel i oi cs b hi) (fun cs b=>hsel j oj cs b hoj) hQ hy h1
   have hfree':∀ k ok,ops[k]?=some ok->k≠i->(listed.setIfInBounds j true).getD k true=false->(∀ e∈ok.after,Region.binds md e=true->e.on≠i)->oi.apart ops ok=true:=fun k ok hk hki hun hno=>by
    refine hfree k ok hk hki ?_ hno
    by_cases hjk:j=k
    ·subst hjk;exact hjun
    ·rw [getD_set_ne true hjk] at hun;exact hun
   refine wpOp_mono (fun a' w' h3=>⟨h3.2.1,qgM hi hsel hL hQ n (listed.setIfInBounds j true) a' w' hfree' (ready_mono hr (Ne.symm hji)) h3.1 (h3.2.1 hjL) ?_⟩) h2
   rw [Array.setIfInBounds_comm _ _ hji]
   exact h3.2.2
theorem qjG {i:Nat} {oi:Oper} {v:Value} {n:Nat} {listed:Array Bool} {a:Act} {w:World} (hi:ops[i]?=some oi)
  (hs:Region.noSelect ops=true) (hf:Region.free md ops listed i=true) (hr:(Region.ready md ops listed).contains i=true) (hL:qdm md ops L i=true)
  (hQ:∀ c a w,Q (.panic c) (a.put oi.dst v) w->Q (.panic c) a w) (hy:YieldsIf P ops S oi v a) (hS:S w)
  (h:qcj P md ops Q S L n (listed.setIfInBounds i true) (a.put oi.dst v) w):qcj P md ops Q S L (n+1) listed a w :=
 qgM hi (Region.noSelect_spec hs) hL hQ n listed a w (Region.free_spec hi hf) (by simpa using hr) hy hS h
theorem qbv {i:Nat} {R:List Nat} {oi:Oper} {v:Value} {n:Nat} {listed:Array Bool} {a:Act} {w:World} (hi:ops[i]?=some oi)
  (hb:(Region.noSelect ops&&Region.free md ops listed i&&(Region.ready md ops listed).contains i&&qdm md ops L i)=true) (hQ:∀ c a w,Q (.panic c) (a.put oi.dst v) w->Q (.panic c) a w) (hg:Region.wanted oi (yielded ops a.tmps)=true) (hS:S w)
  (hy:∀ w,S w->(execOp a.eval oi).run P w = .ok (.value v) w) (h:Plan R (qcj P md ops Q S L n (listed.setIfInBounds i true) (a.put oi.dst v) w)):Plan (i::R) (qcj P md ops Q S L (n+1) listed a w):=by
 simp only [Bool.and_eq_true] at hb
 exact qjG hi hb.1.1.1 hb.1.1.2 hb.1.2 hb.2 hQ (Or.inl ⟨hg,hy⟩) hS h
theorem qbq {i:Nat} {o:Oper} {n:Nat} {listed:Array Bool} {a:Act} {w:World} (hr:Region.ready md ops listed=[i]) (ho:ops[i]?=some o)
  (h:∀ K':Act->World->Prop,Shut (∀ a w,S w->(S w->qcj P md ops Q S L n (listed.setIfInBounds i true) a w)->K' a w)->if Region.wanted o (yielded ops a.tmps)=true then Oper.wp P o a w K' Q else K' (a.put o.dst undef) w):qcj P md ops Q S L (n+1) listed a w:=by
 refine ⟨fun e=>absurd (hr ▸ e) (by simp),fun j hj => ?_⟩
 rw [hr] at hj
 obtain rfl:j=i:=by simpa using hj
 exact wpOp_step ho (fun K' hK=>h K' (fun a w hS hW=>hK a w ⟨fun _=>hS,hW hS⟩))
theorem qc0 {o:Oper} {n:Nat} {listed:Array Bool} {a:Act} {w:World} (hr:Region.ready md ops listed=[L]) (ho:ops[L]?=some o) (hd:Region.ready md ops (listed.setIfInBounds L true)=[])
  (h:∀ K':Act->World->Prop,Shut (∀ a w,Q .normal a w->K' a w)->if Region.wanted o (yielded ops a.tmps)=true then Oper.wp P o a w K' Q else K' (a.put o.dst undef) w):qcj P md ops Q S L (n+1) listed a w:=by
 refine ⟨fun e=>absurd (hr ▸ e) (by simp),fun j hj => ?_⟩
 rw [hr] at hj
 obtain rfl:j=L:=by simpa using hj
 refine wpOp_step ho (fun K' hK=>h K' (fun a w hW=>hK a w ⟨fun e=>absurd rfl e,?_⟩))
 cases n with
 | zero=>exact ⟨hd,hW⟩
 | succ n=>exact ⟨fun _=>hW,by rw [hd];simp⟩
theorem qc1 (L:Nat) {id:Nat} {a:Act} {w:World} (hm:P.follows .mixedOrders=true) (hS:S w.drew)
  (h:S w.drew->qcj P .any ops Q S L ops.size (Array.replicate ops.size false) a w.drew):(Code.region id ops true).wp P Q a w :=
 wp_region_any hm (qgK _ _ _ _ (h hS))
end
def goes (P:Program) (c:Code) (Q:Exit->Act->World->Prop):Nat->Exit->Act->World->Prop
 | 0,.goto _,_,_=>False
 | n+1,.goto l,a,w=>∃ rest,findLabel c l=some rest /\ rest.wp P (goes P c Q n) a w
 | _,.normal,a,w=>Q .normal a w
 | _,.exit id,a,w=>Q (.exit id) a w
 | _,.ret,a,w=>Q .ret a w
 | _,.panic ch,a,w=>Q (.panic ch) a w
 | _,.outgrown,a,w=>Q .outgrown a w
section
variable {P:Program} {c:Code} {Q:Exit->Act->World->Prop} {a:Act} {w:World} {n:Nat}
end
end Go.Proofs.YthpdlbcdbncnhaaGreatDoor
namespace Go.Proofs.YthpdlbcdbncnhaaGreatDoor
set_option maxRecDepth 100000
theorem own:ownKnob Tryz.prog.godebug=none:=by kernel_rfl
theorem laidOut:laidOutB Tryz.prog=true:=by kernel_rfl
end Go.Proofs.YthpdlbcdbncnhaaGreatDoor
namespace Go.Proofs.YthpdlbcdbncnhaaGreatDoor
set_option maxRecDepth 100000
open Go.RowKit
def qaG:List (Int × Int)->Int->Option Int
 | [],_=>none
 | p::r,k=>if p.1==k then some p.2 else qaG r k
def hasM (es:List (Int × Int)) (k:Int):Bool:=(qaG es k).isSome
def valM (es:List (Int × Int)) (k:Int):Int:=(qaG es k).getD 0
def delM (es:List (Int × Int)) (k:Int):List (Int × Int):=es.eraseP fun p=>p.1==k
theorem qjH (es fs:List (Int × Int)) (k:Int):qaG (es++fs) k=(qaG es k).or (qaG fs k):=by
 induction es with
 | nil=>rfl
 | cons p r ih =>
  simp only [List.cons_append,qaG,ih]
  split <;> rfl
theorem qjI (a b k:Int):qaG [(a,b)] k=if a==k then some b else none:=rfl
def MapI (w:World) (b:Nat) (es:List (Int × Int)):Prop :=
 ∃ (xs:Array MapEntry) (clock:Nat),w.heap[b]?=some (.map xs clock) /\ xs.toList.map (fun e=>(e.key,e.val))=es.map fun p=>((.int .i64 p.1,.int .i64 p.2):Value × Value)
theorem MapI.made (w:World):MapI (w.alloc (.map #[] 0)) w.heap.size []:=⟨#[],0,(MapKept.heap_alloc w _).1,rfl⟩
theorem MapI.lt {w:World} {b:Nat} {es:List (Int × Int)} (h:MapI w b es):b < w.heap.size:=by
 obtain ⟨xs,c,hb,_⟩:=h
 exact (Array.getElem?_eq_some_iff.1 hb).1
theorem MapI.same {w w':World} {b:Nat} {es:List (Int × Int)} (h:MapI w b es) (k:w'.heap[b]?=w.heap[b]?):MapI w' b es:=by
 obtain ⟨xs,c,hb,r⟩:=h
 exact ⟨xs,c,k.trans hb,r⟩
theorem MapI.keeps {w w':World} {b:Nat} {es:List (Int × Int)} (h:MapI w b es) (k:Keeps w w'):MapI w' b es:=h.same (Below.block k b h.lt)
theorem qfw (k:Int):∀ (xs:List MapEntry) (es:List (Int × Int)) (i:Nat),xs.map (fun e=>(e.key,e.val))=es.map (fun p=>((.int .i64 p.1,.int .i64 p.2):Value × Value)) ->
  (qaG es k=none /\ Instr.findNow (.int .i64) (.int .i64 k) xs i=some none) ∨
  ∃ (j:Nat) (v:Int),qaG es k=some v /\ Instr.findNow (.int .i64) (.int .i64 k) xs i=some (some (i+j,.int .i64 v)) /\ es.eraseIdx j=delM es k
 | [],[],_,_ => .inl ⟨rfl,rfl⟩
 | [],p::r,_,h=>by simp at h
 | e::xs,[],_,h=>by simp at h
 | e::xs,p::r,i,h=>by
  simp only [List.map_cons,List.cons.injEq,Prod.mk.injEq] at h
  obtain ⟨⟨h1,h2⟩,h3⟩:=h
  have hs:Instr.sameNow (.int .i64) (.int .i64 k) e.key=some (k==p.1):=by rw [h1];simp [Instr.sameNow]
  by_cases c:p.1=k
  ·refine .inr ⟨0,p.2,by simp [qaG,c],?_,?_⟩
   ·simp only [Instr.findNow,hs,c,h2];simp
   ·unfold delM;rw [List.eraseP_cons_of_pos (by simpa using c)];rfl
  ·have c1:(k==p.1)=false:=by simpa using fun e=>c e.symm
   have c2:(p.1==k)=false:=by simpa using c
   rcases qfw k xs r (i+1) h3 with ⟨g1,g2⟩ | ⟨j,v,g1,g2,g3⟩
   ·exact .inl ⟨by simp [qaG,c2,g1],by simp [Instr.findNow,hs,c1,g2]⟩
   ·refine .inr ⟨j+1,v,by simp [qaG,c2,g1],?_,?_⟩
    ·simp only [Instr.findNow,hs,c1,g2];simp;omega
    ·unfold delM at g3 ⊢;rw [List.eraseP_cons_of_neg (by simpa using c),<- g3];rfl
section
variable {P:Program} {w:World} {b:Nat} {es:List (Int × Int)} {t k e:TypeId}
theorem MapI.look (h:MapI w b es) (ht:P.underlying t=some (.map k e)) (hk:P.underlying k=some (.int .i64)) (hz:(zeroValue e).run P w = .ok (.int .i64 0) w) (x:Int) :
  (Instr.lookup t (.map (some b)) (.int .i64 x) true).run P w = .ok (.tuple #[.int .i64 (valM es x),.bool (hasM es x)]) w:=by
 obtain ⟨xs,clock,hb,r⟩:=h
 have ck:∀ em,(Instr.checkKey em 10000 k (.int .i64 x)).run P w = .ok () w:=fun em=>MapKept.run_checkKey hk (by simp [MapKept.IsKey]) em 9999
 rcases qfw x xs.toList es 0 r with ⟨g1,g2⟩ | ⟨j,v,g1,g2,-⟩
 ·simp [Instr.lookup,run_underlying ht,MapKept.run_getObj_map hb,ck,MapKept.run_findKey hk g2,hz,Result.andThen,valM,hasM,g1]
 ·simp [Instr.lookup,run_underlying ht,MapKept.run_getObj_map hb,ck,MapKept.run_findKey hk g2,Result.andThen,valM,hasM,g1]
theorem MapI.len (h:MapI w b es) (ht:P.underlying t=some (.map k e)) (ty:TypeId):(Builtin.len_ #[t] ty #[.map (some b)]).run P w = .ok (.int .i64 es.length) w:=by
 obtain ⟨xs,clock,hb,r⟩:=h
 have:xs.size=es.length:=by have:=congrArg List.length r;simpa using this
 rw [<- this]
 simp [Builtin.len_,run_underlying ht,MapKept.run_getObj_map hb,goInt,Result.andThen]
theorem qfx {o o':Obj} (hb:w.heap[b]?=some o):w.grownBy { w with heap:=w.heap.setIfInBounds b o' } (some b) :=
 ⟨rfl,rfl,rfl,by simp,fun i _ hi=>(MapKept.heap_set hb).2 i (fun e=>hi (by rw [e]))⟩
theorem MapI.put (h:MapI w b es) (ht:P.underlying t=some (.map k e)) (hk:P.underlying k=some (.int .i64)) {x:Int} (y:Int) (hx:qaG es x=none) :
  ∃ w',(Instr.mapUpdate t (.map (some b)) (.int .i64 x) (.int .i64 y)).run P w = .ok () w' /\ MapI w' b (es++[(x,y)]) /\ w.grownBy w' (some b):=by
 obtain ⟨xs,clock,hb,r⟩:=h
 have ck:∀ em,(Instr.checkKey em 10000 k (.int .i64 x)).run P w = .ok () w:=fun em=>MapKept.run_checkKey hk (by simp [MapKept.IsKey]) em 9999
 rcases qfw x xs.toList es 0 r with ⟨g1,g2⟩ | ⟨j,v,g1,-,-⟩
 ·refine ⟨{ w with heap:=w.heap.setIfInBounds b (.map (xs.push ⟨.int .i64 x,.int .i64 y,clock⟩) (clock+1)) },?_,⟨_,_,(MapKept.heap_set hb).1,by simp [r]⟩,qfx hb⟩
  simp [Instr.mapUpdate,run_underlying ht,MapKept.run_getObj_map hb,ck,MapKept.run_findKey hk g2,MapKept.run_setObj_map _ hb,Result.andThen]
 ·rw [hx] at g1;cases g1
end
section
variable {P:Program} {w:World} {ops:Array Oper} {rest:List Oper} {o:Oper} {a:Act} {Q:Exit->Act->World->Prop}
theorem qev (hg:o.guard=none) (m x:Operand) (t:TypeId) (hop:o.op=Op.lookup t m x true) (k e:TypeId) (ht:P.underlying t=some (.map k e)) (hk:P.underlying k=some (.int .i64))
  (hz:(zeroValue e).run P w = .ok (.int .i64 0) w) (b:Nat) (es:List (Int × Int)) (hm:a.eval m = .map (some b)) (h:MapI w b es) (z:Int) (hx:a.eval x = .int .i64 z) (v:Int) (ok:Bool) (hv:valM es z=v) (hok:hasM es z=ok)
  (hK:wpList P ops Q rest (a.put o.dst (.tuple #[.int .i64 v,.bool ok])) w):wpList P ops Q (o::rest) a w:=by
 refine wpList_plain hg fun K' hK' => ?_
 have hrun:=h.look ht hk hz z
 rw [hv,hok] at hrun
 unfold Oper.wp
 simp [execOp,hop,hm,hx,hrun,Result.andThen]
 exact hK' _ _ hK
theorem qjJ (hg:o.guard=none) (m x y:Operand) (t:TypeId) (hop:o.op=Op.mapUpdate t m x y) (k e:TypeId) (ht:P.underlying t=some (.map k e)) (hk:P.underlying k=some (.int .i64))
  (b:Nat) (es:List (Int × Int)) (hm:a.eval m = .map (some b)) (h:MapI w b es) (z v:Int) (hx:a.eval x = .int .i64 z) (hy:a.eval y = .int .i64 v) (hn:qaG es z=none)
  (hK:∀ w',MapI w' b (es++[(z,v)])->w.grownBy w' (some b)->wpList P ops Q rest (a.put o.dst undef) w'):wpList P ops Q (o::rest) a w:=by
 refine wpList_plain hg fun K' hK' => ?_
 obtain ⟨w',hrun,r1,r2⟩:=h.put ht hk v hn
 unfold Oper.wp
 simp [execOp,hop,hm,hx,hy,hrun,Result.andThen]
 exact hK' _ _ (hK w' r1 r2)
end
end Go.Proofs.YthpdlbcdbncnhaaGreatDoor
namespace Go.Proofs.YthpdlbcdbncnhaaGreatDoor
set_option maxRecDepth 100000
theorem qjK {b1 b2 b3 b4 b5 b6 b7 b8 b9 b10 b11 b12 b13 b14 b15 b16 b17 b18 b19 b20 b21 b22 b23 b24 b25 b26 b27 b28 b29 b30 b31 b32:Bool} (h1:b1=true) (h2:b2=true) (h3:b3=true) (h4:b4=true) (h5:b5=true) (h6:b6=true) (h7:b7=true) (h8:b8=true) (h9:b9=true) (h10:b10=true) (h11:b11=true) (h12:b12=true) (h13:b13=true) (h14:b14=true) (h15:b15=true) (h16:b16=true) (h17:b17=true) (h18:b18=true) (h19:b19=true) (h20:b20=true) (h21:b21=true) (h22:b22=true) (h23:b23=true) (h24:b24=true) (h25:b25=true) (h26:b26=true) (h27:b27=true) (h28:b28=true) (h29:b29=true) (h30:b30=true) (h31:b31=true) (h32:b32=true):(b1&&b2&&b3&&b4&&b5&&b6&&b7&&b8&&b9&&b10&&b11&&b12&&b13&&b14&&b15&&b16&&b17&&b18&&b19&&b20&&b21&&b22&&b23&&b24&&b25&&b26&&b27&&b28&&b29&&b30&&b31&&b32)=true:=by
 subst_vars
 rfl
def qc2:List Char:=[Char.ofNat 104,Char.ofNat 97,Char.ofNat 114,Char.ofNat 110,Char.ofNat 101,Char.ofNat 115,Char.ofNat 115,Char.ofNat 32,Char.ofNat 57,Char.ofNat 54,Char.ofNat 102,Char.ofNat 102,Char.ofNat 51,Char.ofNat 57,Char.ofNat 51,Char.ofNat 51,Char.ofNat 51,Char.ofNat 98,Char.ofNat 51,Char.ofNat 54,Char.ofNat 54,Char.ofNat 99,Char.ofNat 50,Char.ofNat 99,Char.ofNat 48,Char.ofNat 101,Char.ofNat 55,Char.ofNat 52,Char.ofNat 101,Char.ofNat 100,Char.ofNat 97,Char.ofNat 53,Char.ofNat 98,Char.ofNat 98,Char.ofNat 54,Char.ofNat 49,Char.ofNat 50,Char.ofNat 99,Char.ofNat 97,Char.ofNat 52,Char.ofNat 100,Char.ofNat 97,Char.ofNat 55,Char.ofNat 52,Char.ofNat 53,Char.ofNat 53,Char.ofNat 52,Char.ofNat 97,Char.ofNat 53,Char.ofNat 48,Char.ofNat 53,Char.ofNat 55,Char.ofNat 101,Char.ofNat 53,Char.ofNat 52,Char.ofNat 49,Char.ofNat 54,Char.ofNat 53,Char.ofNat 49,Char.ofNat 99,Char.ofNat 49,Char.ofNat 51,Char.ofNat 56,Char.ofNat 54,Char.ofNat 101,Char.ofNat 97,Char.ofNat 49,Char.ofNat 99,Char.ofNat 54,Char.ofNat 97,Char.ofNat 50,Char.ofNat 98,Char.ofNat 32,Char.ofNat 99,Char.ofNat 117,Char.ofNat 116,Char.ofNat 32,Char.ofNat 97,Char.ofNat 116,Char.ofNat 32,Char.ofNat 108,Char.ofNat 111,Char.ofNat 111,Char.ofNat 112,Char.ofNat 46,Char.ofNat 101,Char.ofNat 120,Char.ofNat 97,Char.ofNat 109,Char.ofNat 112,Char.ofNat 108,Char.ofNat 101,Char.ofNat 47,Char.ofNat 103,Char.ofNat 48,Char.ofNat 48,Char.ofNat 49,Char.ofNat 56,Char.ofNat 53,Char.ofNat 47,Char.ofNat 108,Char.ofNat 97,Char.ofNat 119,Char.ofNat 115,Char.ofNat 46,Char.ofNat 70,Char.ofNat 110,Char.ofNat 69,Char.ofNat 120,Char.ofNat 97,Char.ofNat 99,Char.ofNat 116,Char.ofNat 83,Char.ofNat 104,Char.ofNat 111,Char.ofNat 114,Char.ofNat 116,Char.ofNat 79,Char.ofNat 102,Char.ofNat 32,Char.ofNat 108,Char.ofNat 111,Char.ofNat 111,Char.ofNat 112,Char.ofNat 46,Char.ofNat 101,Char.ofNat 120,Char.ofNat 97,Char.ofNat 109,Char.ofNat 112,Char.ofNat 108,Char.ofNat 101,Char.ofNat 47,Char.ofNat 103,Char.ofNat 48,Char.ofNat 48,Char.ofNat 49,Char.ofNat 56,Char.ofNat 53,Char.ofNat 47,Char.ofNat 108,Char.ofNat 97,Char.ofNat 119,Char.ofNat 115,Char.ofNat 46,Char.ofNat 70,Char.ofNat 110,Char.ofNat 69,Char.ofNat 120,Char.ofNat 97,Char.ofNat 99,Char.ofNat 116,Char.ofNat 83,Char.ofNat 112,Char.ofNat 114,Char.ofNat 101,Char.ofNat 97,Char.ofNat 100,Char.ofNat 79,Char.ofNat 110,Char.ofNat 32,Char.ofNat 108,Char.ofNat 111,Char.ofNat 111,Char.ofNat 112,Char.ofNat 46,Char.ofNat 101,Char.ofNat 120,Char.ofNat 97,Char.ofNat 109,Char.ofNat 112,Char.ofNat 108,Char.ofNat 101,Char.ofNat 47,Char.ofNat 103,Char.ofNat 48,Char.ofNat 48,Char.ofNat 49,Char.ofNat 56,Char.ofNat 53,Char.ofNat 47,Char.ofNat 108,Char.ofNat 97,Char.ofNat 119,Char.ofNat 115,Char.ofNat 46,Char.ofNat 70,Char.ofNat 110,Char.ofNat 83,Char.ofNat 104,Char.ofNat 111,Char.ofNat 114,Char.ofNat 116,Char.ofNat 32,Char.ofNat 108,Char.ofNat 111,Char.ofNat 111,Char.ofNat 112,Char.ofNat 46,Char.ofNat 101,Char.ofNat 120,Char.ofNat 97,Char.ofNat 109,Char.ofNat 112,Char.ofNat 108,Char.ofNat 101,Char.ofNat 47,Char.ofNat 103,Char.ofNat 48,Char.ofNat 48,Char.ofNat 49,Char.ofNat 56,Char.ofNat 53,Char.ofNat 47,Char.ofNat 108,Char.ofNat 97,Char.ofNat 119,Char.ofNat 115,Char.ofNat 46,Char.ofNat 70,Char.ofNat 110,Char.ofNat 74,Char.ofNat 117,Char.ofNat 100,Char.ofNat 103,Char.ofNat 101,Char.ofNat 115]
theorem qfy:Tryz.pinned.checked.prog.initOrder.toList=qc2:=by
 have h:Tryz.pinned.checked.prog.initOrder=String.ofList qc2:=String.toByteArray_inj.1 (by kernel_rfl)
 rw [h,String.toList_ofList]
theorem qjL (P:Program) (h:P.initOrder.toList=qc2):P.liftsFinal=false:=by
 unfold Program.liftsFinal Program.headLifts
 rw [h]
 kernel_rfl
theorem qjM:Tryz.pinned.checked.prog.liftsFinal=false:=qjL _ qfy
theorem qjN (P:Program) (h:P.initOrder.toList=qc2):P.make=some .cut:=by
 unfold Program.make
 rw [h]
 kernel_rfl
theorem qjO:Tryz.pinned.checked.prog.make=some .cut:=qjN _ qfy
theorem qjP:stripLifts liftWords (behindMainWord (wordsSigns qc2))=([],behindMainWord (wordsSigns qc2)):=by kernel_rfl
theorem qjQ (P:Program) (h:P.initOrder.toList=qc2) (h1:P.laysLater=false) (h2:P.bearsReflect=false) (h3:P.doorFits []=true):P.mayEnter=true:=by
 have hh:((behindMainWord (wordsSigns qc2)).head?==some "cut".toList)=true:=by kernel_rfl
 have hs:=qjP
 unfold Program.mayEnter
 rw [h]
 generalize behindMainWord (wordsSigns qc2)=L at hh hs ⊢
 cases L with
 | nil=>cases hh
 | cons c rest =>
  simp only [hs,hh,h1,h2,h3]
  simp
theorem qjR:Tryz.pinned.checked.prog.laysLater=false:=by kernel_rfl
theorem qjS:Tryz.pinned.checked.prog.bearsReflect=false:=by kernel_rfl
theorem qjT:Tryz.pinned.checked.prog.doorFits []=true:=by kernel_rfl
theorem qjU:Tryz.pinned.checked.prog.mayEnter=true:=qjQ _ qfy qjR qjS qjT
end Go.Proofs.YthpdlbcdbncnhaaGreatDoor
namespace Go.Proofs.YthpdlbcdbncnhaaGreatDoor
set_option maxRecDepth 100000
open Go.ChangeShapes Go.WideShapes Go.ChangeAt Go.RowKit
theorem qjV {H:Type} {enc:TypeId × Value->H} {W:World} {a:Option Addr} {len cap:Nat} {d:DataW H} {p:List MemPlace}
  (h:DataW.Trod enc Tryz.prog W 0 (fun _=>true) true 42 (.slice a len cap) d p):len <= maxLen /\ ∀ g,W.heap.size <= g->Bytes g W a len:=by
 obtain ⟨fuel,hf⟩:=h
 rcases open_ints Tryz.underlying42 Tryz.underlying5 (by kernel_rfl) hf with ⟨hcs,_⟩ | ⟨x,l,c,zs,hcs,_,hl,hm,hz,_,hcell,hwz⟩
 ·simp [Value.cells] at hcs
  obtain ⟨rfl,rfl,rfl⟩:=hcs
  exact ⟨by simp,fun g _ => .inl rfl⟩
 ·simp [Value.cells] at hcs
  obtain ⟨rfl,rfl,rfl⟩:=hcs
  have hz':zs.length=cap:=by simpa using hz
  refine ⟨by omega,fun g hg => ?_⟩
  by_cases h0:len=0
  ·exact .inl h0
  obtain ⟨b,off,spot⟩:=x
  have hs:spot=none:=by
   have:=World.cell?_spot (hcell 0 (by omega))
   simpa [Addr.add] using this
  subst hs
  have hb:b < W.heap.size:=by
   have:=World.block_lt_of_cell? W _ (hcell 0 (by omega))
   simpa [Addr.add] using this
  refine .inr ⟨b,off,rfl,by omega,fun j hj => ?_⟩
  have hj':j < zs.length:=by omega
  have hw:=hwz (zs.getD j 0) (by simp [hj'])
  have hb8:=bounds_u8 hw
  have hc:=hcell j hj'
  have e:(⟨b,off,none⟩:Addr).add j=⟨b,off+j,none⟩:=by
   unfold Addr.add
   by_cases h:j=0 <;> simp [h]
  rw [e] at hc
  exact ⟨_,hb8.1,hb8.2,hc⟩
end Go.Proofs.YthpdlbcdbncnhaaGreatDoor
