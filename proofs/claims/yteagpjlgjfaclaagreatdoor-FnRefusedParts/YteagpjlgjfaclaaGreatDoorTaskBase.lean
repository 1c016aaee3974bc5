/-
  A task as a value, and the laws' own helpers over one: a co
  A region that draws its order and ends in one store for whi
  The same as Late, where operations that look at no memory n
-/
import Derived.Test.YteagpjlgjfaclaaGreatDoorBase
import Derived.Laws.ResultCell
import Derived.Deep.RegionHeld3
namespace Go.Proofs.YteagpjlgjfaclaaGreatDoor
open Go.RowKit
structure Tsk where
 no:Int
 cls:Int
 cpu:Int
 st:Int
 idle:Bool
 q:Int
 p:Int
 left:Int
 due:Int
 prio:Int
 round:Int
 seq:Int
 nice:Int
 v:Int
def eqT (a b:Tsk):Bool:=a.no==b.no&&(a.cls==b.cls&&(a.cpu==b.cpu&&(a.st==b.st&&(a.idle==b.idle&&(a.q==b.q&&(a.p==b.p&&(a.left==b.left&&(a.due==b.due&&(a.prio==b.prio&&(a.round==b.round&&(a.seq==b.seq&&(a.nice==b.nice&&a.v==b.v))))))))))))
theorem qfH {a b:Tsk}:eqT a b=true↔a=b:=by
 cases a;cases b;simp [eqT]
def Tsk.zero:Tsk:=⟨0,0,0,0,false,0,0,0,0,0,0,0,0,0⟩
abbrev tc (t:Tsk):Array Value:=#[.int .i64 t.no,.int .i64 t.cls,.int .i64 t.cpu,.int .i64 t.st,.bool t.idle,.int .i64 t.q,.int .i64 t.p,.int .i64 t.left,.int .i64 t.due,.int .i64 t.prio,.int .i64 t.round,.int .i64 t.seq,.int .i64 t.nice,.int .i64 t.v]
abbrev tk (t:Tsk):Value := .agg (tc t)
abbrev putT (w:World) (b:Nat) (t:Tsk):World:=(((((((((((((w.setCell ⟨b,0,none⟩ (.int .i64 t.no)).setCell ⟨b,1,none⟩ (.int .i64 t.cls)).setCell ⟨b,2,none⟩ (.int .i64 t.cpu)).setCell ⟨b,3,none⟩ (.int .i64 t.st)).setCell ⟨b,4,none⟩ (.bool t.idle)).setCell ⟨b,5,none⟩ (.int .i64 t.q)).setCell ⟨b,6,none⟩ (.int .i64 t.p)).setCell ⟨b,7,none⟩ (.int .i64 t.left)).setCell ⟨b,8,none⟩ (.int .i64 t.due)).setCell ⟨b,9,none⟩ (.int .i64 t.prio)).setCell ⟨b,10,none⟩ (.int .i64 t.round)).setCell ⟨b,11,none⟩ (.int .i64 t.seq)).setCell ⟨b,12,none⟩ (.int .i64 t.nice)).setCell ⟨b,13,none⟩ (.int .i64 t.v)
theorem Blk.putT {w:World} {b:Nat} {s:Tsk} (h:Blk w b (tc s)) (t:Tsk):Blk (putT w b t) b (tc t):=by
 have h0:=h.set 0 (by simp) (.int .i64 t.no)
 simp only [List.setIfInBounds_toArray,List.set_cons_zero] at h0
 have h1:=h0.set 1 (by simp) (.int .i64 t.cls)
 simp only [List.setIfInBounds_toArray,List.set_cons_zero,List.set_cons_succ] at h1
 have h2:=h1.set 2 (by simp) (.int .i64 t.cpu)
 simp only [List.setIfInBounds_toArray,List.set_cons_zero,List.set_cons_succ] at h2
 have h3:=h2.set 3 (by simp) (.int .i64 t.st)
 simp only [List.setIfInBounds_toArray,List.set_cons_zero,List.set_cons_succ] at h3
 have h4:=h3.set 4 (by simp) (.bool t.idle)
 simp only [List.setIfInBounds_toArray,List.set_cons_zero,List.set_cons_succ] at h4
 have h5:=h4.set 5 (by simp) (.int .i64 t.q)
 simp only [List.setIfInBounds_toArray,List.set_cons_zero,List.set_cons_succ] at h5
 have h6:=h5.set 6 (by simp) (.int .i64 t.p)
 simp only [List.setIfInBounds_toArray,List.set_cons_zero,List.set_cons_succ] at h6
 have h7:=h6.set 7 (by simp) (.int .i64 t.left)
 simp only [List.setIfInBounds_toArray,List.set_cons_zero,List.set_cons_succ] at h7
 have h8:=h7.set 8 (by simp) (.int .i64 t.due)
 simp only [List.setIfInBounds_toArray,List.set_cons_zero,List.set_cons_succ] at h8
 have h9:=h8.set 9 (by simp) (.int .i64 t.prio)
 simp only [List.setIfInBounds_toArray,List.set_cons_zero,List.set_cons_succ] at h9
 have h10:=h9.set 10 (by simp) (.int .i64 t.round)
 simp only [List.setIfInBounds_toArray,List.set_cons_zero,List.set_cons_succ] at h10
 have h11:=h10.set 11 (by simp) (.int .i64 t.seq)
 simp only [List.setIfInBounds_toArray,List.set_cons_zero,List.set_cons_succ] at h11
 have h12:=h11.set 12 (by simp) (.int .i64 t.nice)
 simp only [List.setIfInBounds_toArray,List.set_cons_zero,List.set_cons_succ] at h12
 have h13:=h12.set 13 (by simp) (.int .i64 t.v)
 simp only [List.setIfInBounds_toArray,List.set_cons_zero,List.set_cons_succ] at h13
 exact h13
theorem Blk.farT {w:World} {b c:Nat} {C:Array Value} (h:Blk w b C) (hc:c≠b) (t:Tsk):Blk (Go.Proofs.YteagpjlgjfaclaaGreatDoor.putT w c t) b C:=((((((((((((((h.far hc _).far hc _).far hc _).far hc _).far hc _).far hc _).far hc _).far hc _).far hc _).far hc _).far hc _).far hc _).far hc _).far hc _)
theorem Keeps.putT {a w:World} {b:Nat} (h:Keeps a w) (hp:a.heap.size <= b) (t:Tsk):Keeps a (Go.Proofs.YteagpjlgjfaclaaGreatDoor.putT w b t):=((((((((((((((h.setCell hp _).setCell hp _).setCell hp _).setCell hp _).setCell hp _).setCell hp _).setCell hp _).setCell hp _).setCell hp _).setCell hp _).setCell hp _).setCell hp _).setCell hp _).setCell hp _)
end Go.Proofs.YteagpjlgjfaclaaGreatDoor
namespace Go.Proofs.YteagpjlgjfaclaaGreatDoor
open Go.RowKit
section
variable {P:Program} {ops:Array Oper} {Q:Exit->Act->World->Prop} {md:Region.Mode} {S:World->Prop} {L:Nat}
def qcb (P:Program) (md:Region.Mode) (ops:Array Oper) (Q:Exit->Act->World->Prop) (S:World->Prop) (L:Nat):Nat->Array Bool->Act->World->Prop
 | 0,listed,a,w=>Region.ready md ops listed=[] /\ Q .normal a w
 | n+1,listed,a,w=>(Region.ready md ops listed=[]->Q .normal a w) /\ ∀ i∈Region.ready md ops listed,wpOp P ops Q i (fun a' w'=>(i≠L->S w') /\ qcb P md ops Q S L n (listed.setIfInBounds i true) a' w') a w
theorem qgG:∀ (n:Nat) (listed:Array Bool) (a:Act) (w:World),qcb P md ops Q S L n listed a w->wpAny P md ops Q n listed a w
 | 0,_,_,_,h=>h
 | n+1,_,_,_,h=>⟨h.1,fun i hi=>wpOp_mono (fun a' w' h'=>qgG n _ a' w' h'.2) (h.2 i hi)⟩
def qcJ (md:Region.Mode) (ops:Array Oper) (L i:Nat):Bool:=match ops[L]? with
 | some o=>o.after.any fun e=>Region.binds md e&&e.on==i
 | none=>true
theorem qff {i:Nat} {listed:Array Bool} (h:qcJ md ops L i=true) (hi:i∈Region.ready md ops listed):L ∉ Region.ready md ops listed:=by
 intro hL
 obtain ⟨_,o,ho,hall⟩:=mem_ready.1 hL
 unfold qcJ at h
 rw [ho] at h
 obtain ⟨e,he,h2⟩:=Array.any_eq_true'.1 h
 simp only [Bool.and_eq_true,beq_iff_eq] at h2
 have h1:=hall e he h2.1
 have h0:=(mem_ready.1 hi).1
 rw [h2.2] at h1
 rcases Nat.lt_or_ge i listed.size with h' | h'
 ·simp [h'] at h0 h1;rw [h0] at h1;cases h1
 ·simp [Array.getElem?_eq_none h'] at h1
theorem qgH {i:Nat} {oi:Oper} {v:Value} (hi:ops[i]?=some oi) (hsel:∀ (j:Nat) (o:Oper) cs b,ops[j]?=some o->o.op ≠ .select cs b) (hL:qcJ md ops L i=true)
  (hQ:∀ c a w,Q (.panic c) (a.put oi.dst v) w->Q (.panic c) a w) :
  ∀ (n:Nat) (listed:Array Bool) (a:Act) (w:World),(∀ j oj,ops[j]?=some oj->j≠i->listed.getD j true=false->(∀ e∈oj.after,Region.binds md e=true->e.on≠i)->oi.apart ops oj=true) ->
   i∈Region.ready md ops listed->YieldsIf P ops S oi v a->S w->qcb P md ops Q S L n (listed.setIfInBounds i true) (a.put oi.dst v) w->qcb P md ops Q S L (n+1) listed a w
 | 0,listed,a,w,_,hr,hy,hS,H=>by
  refine ⟨fun h=>(by rw [h] at hr;cases hr),fun j hj => ?_⟩
  by_cases hji:j=i
  ·subst hji;exact hy.wpOp hi hS ⟨fun _=>hS,H⟩
  ·have:=ready_mono hj hji
   rw [H.1] at this
   cases this
 | n+1,listed,a,w,hfree,hr,hy,hS,H=>by
  refine ⟨fun h=>(by rw [h] at hr;cases hr),fun j hj => ?_⟩
  by_cases hji:j=i
  ·subst hji;exact hy.wpOp hi hS ⟨fun _=>hS,H⟩
  ·have hjL:j≠L:=fun e=>qff hL hr (e ▸ hj)
   have h1:=H.2 j (ready_mono hj hji)
   obtain ⟨hjun,oj,hoj,hall⟩:=mem_ready.1 hj
   have hnot:∀ e∈oj.after,Region.binds md e=true->e.on≠i:=fun e he hb heq=>by
    have h1:=hall e he hb
    have h0:=(mem_ready.1 hr).1
    rw [heq] at h1
    rcases Nat.lt_or_ge i listed.size with h' | h'
    ·simp [h'] at h0 h1;rw [h0] at h1;cases h1
    ·simp [Array.getElem?_eq_none h'] at h1
   have h2:=wpOp_putIf hoj (hfree j oj hoj hji hjun hnot) (fun cs b=>hsel i oi cs b hi) (fun cs b=>hsel j oj cs b hoj) hQ hy h1
   have hfree':∀ k ok,ops[k]?=some ok->k≠i->(listed.setIfInBounds j true).getD k true=false->(∀ e∈ok.after,Region.binds md e=true->e.on≠i)->oi.apart ops ok=true:=fun k ok hk hki hun hno=>by
    refine hfree k ok hk hki ?_ hno
    by_cases hjk:j=k
    ·subst hjk;exact hjun
    ·rw [getD_set_ne true hjk] at hun;exact hun
   refine wpOp_mono (fun a' w' h3=>⟨h3.2.1,qgH hi hsel hL hQ n (listed.setIfInBounds j true) a' w' hfree' (ready_mono hr (Ne.symm hji)) h3.1 (h3.2.1 hjL) ?_⟩) h2
   rw [Array.setIfInBounds_comm _ _ hji]
   exact h3.2.2
theorem qkW {i:Nat} {oi:Oper} {v:Value} {n:Nat} {listed:Array Bool} {a:Act} {w:World} (hi:ops[i]?=some oi)
  (hs:Region.noSelect ops=true) (hf:Region.free md ops listed i=true) (hr:(Region.ready md ops listed).contains i=true) (hL:qcJ md ops L i=true)
  (hQ:∀ c a w,Q (.panic c) (a.put oi.dst v) w->Q (.panic c) a w) (hy:YieldsIf P ops S oi v a) (hS:S w)
  (h:qcb P md ops Q S L n (listed.setIfInBounds i true) (a.put oi.dst v) w):qcb P md ops Q S L (n+1) listed a w :=
 qgH hi (Region.noSelect_spec hs) hL hQ n listed a w (Region.free_spec hi hf) (by simpa using hr) hy hS h
theorem qbp {i:Nat} {R:List Nat} {oi:Oper} {v:Value} {n:Nat} {listed:Array Bool} {a:Act} {w:World} (hi:ops[i]?=some oi)
  (hb:(Region.noSelect ops&&Region.free md ops listed i&&(Region.ready md ops listed).contains i&&qcJ md ops L i)=true) (hQ:∀ c a w,Q (.panic c) (a.put oi.dst v) w->Q (.panic c) a w) (hg:Region.wanted oi (yielded ops a.tmps)=true) (hS:S w)
  (hy:∀ w,S w->(execOp a.eval oi).run P w = .ok (.value v) w) (h:Plan R (qcb P md ops Q S L n (listed.setIfInBounds i true) (a.put oi.dst v) w)):Plan (i::R) (qcb P md ops Q S L (n+1) listed a w):=by
 simp only [Bool.and_eq_true] at hb
 exact qkW hi hb.1.1.1 hb.1.1.2 hb.1.2 hb.2 hQ (Or.inl ⟨hg,hy⟩) hS h
theorem qbh {i:Nat} {o:Oper} {n:Nat} {listed:Array Bool} {a:Act} {w:World} (hr:Region.ready md ops listed=[i]) (ho:ops[i]?=some o)
  (h:∀ K':Act->World->Prop,Shut (∀ a w,S w->(S w->qcb P md ops Q S L n (listed.setIfInBounds i true) a w)->K' a w)->if Region.wanted o (yielded ops a.tmps)=true then Oper.wp P o a w K' Q else K' (a.put o.dst undef) w):qcb P md ops Q S L (n+1) listed a w:=by
 refine ⟨fun e=>absurd (hr ▸ e) (by simp),fun j hj => ?_⟩
 rw [hr] at hj
 obtain rfl:j=i:=by simpa using hj
 exact wpOp_step ho (fun K' hK=>h K' (fun a w hS hW=>hK a w ⟨fun _=>hS,hW hS⟩))
theorem qcr {o:Oper} {n:Nat} {listed:Array Bool} {a:Act} {w:World} (hr:Region.ready md ops listed=[L]) (ho:ops[L]?=some o) (hd:Region.ready md ops (listed.setIfInBounds L true)=[])
  (h:∀ K':Act->World->Prop,Shut (∀ a w,Q .normal a w->K' a w)->if Region.wanted o (yielded ops a.tmps)=true then Oper.wp P o a w K' Q else K' (a.put o.dst undef) w):qcb P md ops Q S L (n+1) listed a w:=by
 refine ⟨fun e=>absurd (hr ▸ e) (by simp),fun j hj => ?_⟩
 rw [hr] at hj
 obtain rfl:j=L:=by simpa using hj
 refine wpOp_step ho (fun K' hK=>h K' (fun a w hW=>hK a w ⟨fun e=>absurd rfl e,?_⟩))
 cases n with
 | zero=>exact ⟨hd,hW⟩
 | succ n=>exact ⟨fun _=>hW,by rw [hd];simp⟩
theorem qcs (L:Nat) {id:Nat} {a:Act} {w:World} (hm:P.follows .mixedOrders=true) (hS:S w.drew)
  (h:S w.drew->qcb P .any ops Q S L ops.size (Array.replicate ops.size false) a w.drew):(Code.region id ops true).wp P Q a w :=
 wp_region_any hm (qgG _ _ _ _ (h hS))
end
end Go.Proofs.YteagpjlgjfaclaaGreatDoor
namespace Go.Proofs.YteagpjlgjfaclaaGreatDoor
open Go.RowKit
section
variable {P:Program} {ops:Array Oper} {Q:Exit->Act->World->Prop} {md:Region.Mode} {S:World->Prop} {L:Nat}
def qbS (P:Program) (md:Region.Mode) (ops:Array Oper) (Q:Exit->Act->World->Prop) (S:World->Prop) (L:Nat):Nat->Array Bool->Act->World->Prop
 | 0,listed,a,w=>Region.ready md ops listed=[] /\ Q .normal a w
 | n+1,listed,a,w=>(Region.ready md ops listed=[]->Q .normal a w) /\ ∀ i∈Region.ready md ops listed,wpOp P ops Q i (fun a' w'=>((listed.setIfInBounds i true).getD L true=false->S w') /\ qbS P md ops Q S L n (listed.setIfInBounds i true) a' w') a w
theorem qgI:∀ (n:Nat) (listed:Array Bool) (a:Act) (w:World),qbS P md ops Q S L n listed a w->wpAny P md ops Q n listed a w
 | 0,_,_,_,h=>h
 | n+1,_,_,_,h=>⟨h.1,fun i hi=>wpOp_mono (fun a' w' h'=>qgI n _ a' w' h'.2) (h.2 i hi)⟩
theorem qfg {T:World->Prop} {i:Nat} {oi:Oper} {v:Value} (hiL:i≠L) (hi:ops[i]?=some oi) (hsel:∀ (j:Nat) (o:Oper) cs b,ops[j]?=some o->o.op ≠ .select cs b) (hL:(∀ w,T w)∨(T=S /\ qcJ md ops L i=true))
  (hQ:∀ c a w,Q (.panic c) (a.put oi.dst v) w->Q (.panic c) a w) :
  ∀ (n:Nat) (listed:Array Bool) (a:Act) (w:World),(∀ j oj,ops[j]?=some oj->j≠i->listed.getD j true=false->(∀ e∈oj.after,Region.binds md e=true->e.on≠i)->oi.apart ops oj=true) ->
   i∈Region.ready md ops listed->YieldsIf P ops T oi v a->(listed.getD L true=false->S w)->((∀ w,T w)∨listed.getD L true=false)->qbS P md ops Q S L n (listed.setIfInBounds i true) (a.put oi.dst v) w->qbS P md ops Q S L (n+1) listed a w
 | n,listed,a,w,hfree,hr,hy,hS,hN,H=>by
  have hT:T w:=by
   rcases hL with h | ⟨h,-⟩
   ·exact h w
   ·rcases hN with h2 | h2
    ·exact h2 w
    ·rw [h];exact hS h2
  have hSi:(listed.setIfInBounds i true).getD L true=false->S w:=fun e=>hS (by rw [getD_set_ne true hiL] at e;exact e)
  refine ⟨fun h=>(by rw [h] at hr;cases hr),fun j hj => ?_⟩
  by_cases hji:j=i
  ·subst hji;exact hy.wpOp hi hT ⟨hSi,H⟩
  ·cases n with
   | zero =>
    have:=ready_mono hj hji
    rw [H.1] at this
    cases this
   | succ n =>
    have h1:=H.2 j (ready_mono hj hji)
    obtain ⟨hjun,oj,hoj,hall⟩:=mem_ready.1 hj
    have hnot:∀ e∈oj.after,Region.binds md e=true->e.on≠i:=fun e he hb heq=>by
     have h1:=hall e he hb
     have h0:=(mem_ready.1 hr).1
     rw [heq] at h1
     rcases Nat.lt_or_ge i listed.size with h' | h'
     ·simp [h'] at h0 h1;rw [h0] at h1;cases h1
     ·simp [Array.getElem?_eq_none h'] at h1
    have h2:=wpOp_putIf hoj (hfree j oj hoj hji hjun hnot) (fun cs b=>hsel i oi cs b hi) (fun cs b=>hsel j oj cs b hoj) hQ hy h1
    have hfree':∀ k ok,ops[k]?=some ok->k≠i->(listed.setIfInBounds j true).getD k true=false->(∀ e∈ok.after,Region.binds md e=true->e.on≠i)->oi.apart ops ok=true:=fun k ok hk hki hun hno=>by
     refine hfree k ok hk hki ?_ hno
     by_cases hjk:j=k
     ·subst hjk;exact hjun
     ·rw [getD_set_ne true hjk] at hun;exact hun
    have hN':(∀ w,T w)∨(listed.setIfInBounds j true).getD L true=false:=by
     rcases hN with h | h
     ·exact .inl h
     ·rcases hL with h3 | ⟨-,h3⟩
      ·exact .inl h3
      ·have hjL:j≠L:=fun e=>qff h3 hr (e ▸ hj)
       exact .inr (by rw [getD_set_ne true hjL];exact h)
    refine wpOp_mono (fun a' w' h3 => ?_) h2
    have hS':(listed.setIfInBounds j true).getD L true=false->S w':=fun e=>h3.2.1 (by rw [Array.setIfInBounds_comm _ _ (Ne.symm hji),getD_set_ne true hiL];exact e)
    refine ⟨hS',qfg hiL hi hsel hL hQ n (listed.setIfInBounds j true) a' w' hfree' (ready_mono hr (Ne.symm hji)) h3.1 hS' hN' ?_⟩
    rw [Array.setIfInBounds_comm _ _ hji]
    exact h3.2.2
theorem qkX {i:Nat} {oi:Oper} {v:Value} {n:Nat} {listed:Array Bool} {a:Act} {w:World} (hi:ops[i]?=some oi)
  (hs:Region.noSelect ops=true) (hf:Region.free md ops listed i=true) (hr:(Region.ready md ops listed).contains i=true) (hL:(qcJ md ops L i&&i != L && !listed.getD L true)=true)
  (hQ:∀ c a w,Q (.panic c) (a.put oi.dst v) w->Q (.panic c) a w) (hy:YieldsIf P ops S oi v a) (hS:S w)
  (h:qbS P md ops Q S L n (listed.setIfInBounds i true) (a.put oi.dst v) w):qbS P md ops Q S L (n+1) listed a w:=by
 simp only [Bool.and_eq_true,bne_iff_ne,ne_eq,Bool.not_eq_true'] at hL
 exact qfg hL.1.2 hi (Region.noSelect_spec hs) (.inr ⟨rfl,hL.1.1⟩) hQ n listed a w (Region.free_spec hi hf) (by simpa using hr) hy (fun _=>hS) (.inr hL.2) h
theorem latL {i:Nat} {R:List Nat} {oi:Oper} {v:Value} {n:Nat} {listed:Array Bool} {a:Act} {w:World} (hi:ops[i]?=some oi)
  (hb:(Region.noSelect ops&&Region.free md ops listed i&&(Region.ready md ops listed).contains i&&(qcJ md ops L i&&i != L && !listed.getD L true))=true) (hQ:∀ c a w,Q (.panic c) (a.put oi.dst v) w->Q (.panic c) a w) (hg:Region.wanted oi (yielded ops a.tmps)=true) (hS:S w)
  (hy:∀ w,S w->(execOp a.eval oi).run P w = .ok (.value v) w) (h:Plan R (qbS P md ops Q S L n (listed.setIfInBounds i true) (a.put oi.dst v) w)):Plan (i::R) (qbS P md ops Q S L (n+1) listed a w):=by
 rw [Bool.and_eq_true] at hb
 obtain ⟨h1,h2⟩:=hb
 simp only [Bool.and_eq_true] at h1
 exact qkX hi h1.1.1 h1.1.2 h1.2 h2 hQ (Or.inl ⟨hg,hy⟩) hS h
theorem qkY {i:Nat} {oi:Oper} {v:Value} {n:Nat} {listed:Array Bool} {a:Act} {w:World} (hi:ops[i]?=some oi)
  (hs:Region.noSelect ops=true) (hf:Region.free md ops listed i=true) (hr:(Region.ready md ops listed).contains i=true) (hL:(i != L)=true)
  (hQ:∀ c a w,Q (.panic c) (a.put oi.dst v) w->Q (.panic c) a w) (hy:YieldsIf P ops (fun _=>True) oi v a) (hS:S w)
  (h:qbS P md ops Q S L n (listed.setIfInBounds i true) (a.put oi.dst v) w):qbS P md ops Q S L (n+1) listed a w :=
 qfg (T:=fun _=>True) (by simpa using hL) hi (Region.noSelect_spec hs) (.inl fun _=>trivial) hQ n listed a w (Region.free_spec hi hf) (by simpa using hr) hy (fun _=>hS) (.inl fun _=>trivial) h
theorem qgJ {i:Nat} {o:Oper} {n:Nat} {listed:Array Bool} {a:Act} {w:World} (hr:Region.ready md ops listed=[i]) (ho:ops[i]?=some o)
  (h:∀ K':Act->World->Prop,Shut (∀ a w,S w->(S w->qbS P md ops Q S L n (listed.setIfInBounds i true) a w)->K' a w)->if Region.wanted o (yielded ops a.tmps)=true then Oper.wp P o a w K' Q else K' (a.put o.dst undef) w):qbS P md ops Q S L (n+1) listed a w:=by
 refine ⟨fun e=>absurd (hr ▸ e) (by simp),fun j hj => ?_⟩
 rw [hr] at hj
 obtain rfl:j=i:=by simpa using hj
 exact wpOp_step ho (fun K' hK=>h K' (fun a w hS hW=>hK a w ⟨fun _=>hS,hW hS⟩))
theorem qkZ {o:Oper} {n:Nat} {listed:Array Bool} {a:Act} {w:World} (hr:Region.ready md ops listed=[L]) (ho:ops[L]?=some o) (hd:Region.ready md ops (listed.setIfInBounds L true)=[])
  (h:∀ K':Act->World->Prop,Shut (∀ a w,Q .normal a w->K' a w)->if Region.wanted o (yielded ops a.tmps)=true then Oper.wp P o a w K' Q else K' (a.put o.dst undef) w):qbS P md ops Q S L (n+1) listed a w:=by
 refine ⟨fun e=>absurd (hr ▸ e) (by simp),fun j hj => ?_⟩
 rw [hr] at hj
 obtain rfl:j=L:=by simpa using hj
 refine wpOp_step ho (fun K' hK=>h K' (fun a w hW=>hK a w ⟨fun e => ?_,?_⟩))
 ·exfalso
  by_cases hlt:j < listed.size
  ·simp [hlt] at e
  ·simp [hlt] at e
 ·cases n with
  | zero=>exact ⟨hd,hW⟩
  | succ n=>exact ⟨fun _=>hW,by rw [hd];simp⟩
theorem qk0 (L:Nat) {id:Nat} {a:Act} {w:World} (hm:P.follows .mixedOrders=true) (hS:S w.drew)
  (h:S w.drew->qbS P .any ops Q S L ops.size (Array.replicate ops.size false) a w.drew):(Code.region id ops true).wp P Q a w :=
 wp_region_any hm (qgI _ _ _ _ (h hS))
end
end Go.Proofs.YteagpjlgjfaclaaGreatDoor
