/-
  Picking, as plain functions, and what holds of them.
  A region that draws its order and ends in several stores, o
  Closed facts on the program as a whole that every statement
  Locks that lie there, as the laws and later chapters hand t
  Fair shares over lists: contracts of the model's functions.
-/
import Derived.Test.YteagpjlgjfaclaaGreatDoorTaskSpec
import Derived.Test.YteagpjlgjfaclaaGreatDoorCur
import Derived.Test.YteagpjlgjfaclaaGreatDoorImplHead
import Derived.Test.YteagpjlgjfaclaaGreatDoorLate
import Derived.Test.YteagpjlgjfaclaaGreatDoorLockSpec2
namespace Go.Proofs.YteagpjlgjfaclaaGreatDoor
set_option maxRecDepth 100000
section
open Go.RowKit
def bh (a b:ag):Bool:=aY a&&(aY b&&(if a.cls != b.cls then decide (a.cls < b.cls) else fQ a b||(fE a b||fO a b)))
theorem rE {t:ag} (h:aY t=true):1 <= t.cls /\ t.cls <= 3:=by
 unfold aY at h
 simp only [Bool.and_eq_true] at h
 exact dq.1 h.1.1.1.1.2
theorem nA {a b:ag}:bh a b=true↔aY a=true /\ aY b=true /\ (a.cls < b.cls∨a.cls=b.cls /\ (a.cls=1 /\ (a.due < b.due∨a.due=b.due /\ a.no < b.no)∨a.cls=2 /\ (b.prio < a.prio∨a.prio=b.prio /\ (a.seq < b.seq∨a.seq=b.seq /\ a.no < b.no))∨a.cls=3 /\ (a.v < b.v∨a.v=b.v /\ a.no < b.no))):=by
 unfold bh
 rw [Bool.and_eq_true,Bool.and_eq_true]
 refine and_congr_right fun ha=>and_congr_right fun hb => ?_
 have ca:=rE ha
 have cb:=rE hb
 by_cases hc:a.cls=b.cls
 ·have e1:(a.cls != b.cls)=false:=by simpa using hc
  rw [e1]
  simp only [Bool.false_eq_true,if_false]
  unfold fQ fE fO dh dD dY
  rw [ha,hb,<- hc]
  simp only [Bool.true_and,Bool.or_eq_true,Bool.and_eq_true,beq_iff_eq,decide_eq_true_eq]
  constructor
  ·rintro (⟨⟨h1,-⟩,h2⟩ | ⟨⟨h1,-⟩,h2⟩ | ⟨⟨h1,-⟩,h2⟩)
   ·exact .inr ⟨trivial,.inl ⟨h1,h2⟩⟩
   ·refine .inr ⟨trivial,.inr (.inl ⟨h1,?_⟩)⟩
    by_cases p1:a.prio=b.prio
    ·have q1:(a.prio != b.prio)=false:=by simpa using p1
     rw [q1] at h2
     by_cases p2:a.seq=b.seq
     ·have q2:(a.seq != b.seq)=false:=by simpa using p2
      rw [q2] at h2
      simp at h2
      omega
     ·have q2:(a.seq != b.seq)=true:=by simpa using p2
      rw [q2] at h2
      simp at h2
      omega
    ·have q1:(a.prio != b.prio)=true:=by simpa using p1
     rw [q1] at h2
     simp at h2
     omega
   ·exact .inr ⟨trivial,.inr (.inr ⟨h1,h2⟩)⟩
  ·rintro (h | ⟨-,⟨h1,h2⟩ | ⟨h1,h2⟩ | ⟨h1,h2⟩⟩)
   ·omega
   ·exact .inl ⟨⟨h1,h1⟩,h2⟩
   ·refine .inr (.inl ⟨⟨h1,h1⟩,?_⟩)
    by_cases p1:a.prio=b.prio
    ·have q1:(a.prio != b.prio)=false:=by simpa using p1
     rw [q1]
     by_cases p2:a.seq=b.seq
     ·have q2:(a.seq != b.seq)=false:=by simpa using p2
      rw [q2]
      simp
      omega
     ·have q2:(a.seq != b.seq)=true:=by simpa using p2
      rw [q2]
      simp
      omega
    ·have q1:(a.prio != b.prio)=true:=by simpa using p1
     rw [q1]
     simp
     omega
   ·exact .inr (.inr ⟨⟨h1,h1⟩,h2⟩)
 ·have e1:(a.cls != b.cls)=true:=by simpa using hc
  rw [e1]
  simp only [if_true,decide_eq_true_eq]
  omega
theorem vV (a:ag):bh a a=false:=by
 rw [Bool.eq_false_iff]
 intro h
 have:=nA.1 h
 omega
theorem Bl {a b c:ag} (h:bh a b=true) (k:bh b c=true):bh a c=true:=by
 have h1:=nA.1 h
 have h2:=nA.1 k
 exact nA.2 ⟨h1.1,h2.2.1,by omega⟩
theorem Kv {a b:ag} (ha:aY a=true) (hb:aY b=true) (hn:a.no≠b.no):bh a b=true∨bh b a=true:=by
 have ca:=rE ha
 have cb:=rE hb
 by_cases h:bh a b=true
 ·exact .inl h
 ·refine .inr (nA.2 ⟨hb,ha,?_⟩)
  have:¬ (a.cls < b.cls∨a.cls=b.cls /\ (a.cls=1 /\ (a.due < b.due∨a.due=b.due /\ a.no < b.no)∨a.cls=2 /\ (b.prio < a.prio∨a.prio=b.prio /\ (a.seq < b.seq∨a.seq=b.seq /\ a.no < b.no))∨a.cls=3 /\ (a.v < b.v∨a.v=b.v /\ a.no < b.no))):=fun h'=>h (nA.2 ⟨ha,hb,h'⟩)
  omega
def ig (ls:List Lk) (no:Int):List Int:=(cO ls (ls.length+1) no).1
def lj (c:List Int):Int:=c.getD (c.length - 1) 0
def bF (ts:List ag) (x:Int):Bool := !decide (dA ts x < 0)
def gx (ts:List ag) (ls:List Lk) (no:Int):Int:=if (ig ls no).all (bF ts) then lj (ig ls no) else 0
def de (ts:List ag) (no:Int):ag:=ts.getD (dA ts no).toNat ag.zero
def jx (ts:List ag) (ls:List Lk) (no:Int):Bool:=gx ts ls no != 0&&((de ts no).st==1&&(de ts (gx ts ls no)).st==1)
def mB (t:ag):Bool:=t.cls != 1||decide (0 < t.left)
def gD (ts:List ag) (ls:List Lk) (no:Int):Bool:=jx ts ls no&&mB (de ts no)
def sa (ts:List ag) (ls:List Lk):Bool:=di ts&&dm ls
def qc4 (ts:List ag) (ls:List Lk) (no:Int):Int:=if sa ts ls then gx ts ls no else 0
def lr (ts:List ag) (bZ:ag->Bool) (at':Int) (k:Nat) (t:ag):Int:=if bZ t&&(decide (at' < 0)||bh t (ts.getD at'.toNat ag.zero)) then (k:Int) else at'
def dr (ts:List ag) (bZ:ag->Bool):Nat->Int
 | 0 => -1
 | k+1=>lr ts bZ (dr ts bZ k) k (ts.getD k ag.zero)
def vp (ts:List ag) (ls:List Lk) (cpu:Int) (t:ag):Bool:=t.cpu==cpu&&gD ts ls t.no
def lV (xs:List Int) (t:ag):Bool:=hasB xs t.no
def qc5 (ts:List ag) (ls:List Lk) (cpu:Int):Int:=dr ts (vp ts ls cpu) ts.length
def gT (ts:List ag) (k:Int):Int:=if k < 0 then 0 else (ts.getD k.toNat ag.zero).no
def eO (ts:List ag) (xs:List Int):Int:=if di ts then gT ts (dr ts (lV xs) ts.length) else 0
theorem vm (ls:List Lk) (no:Int):0 < (ig ls no).length:=by
 unfold ig
 simp only [cO]
 split <;> simp
theorem Nq (ls:List Lk) (no:Int):(ig ls no)[0]?=some no:=by
 unfold ig
 simp only [cO]
 split <;> simp
theorem rf {c:List Int} (h:0 < c.length):c[c.length - 1]?=some (lj c):=by
 unfold lj
 rw [List.getD_eq_getElem?_getD,List.getElem?_eq_getElem (by omega)]
 rfl
theorem jL {ts:List ag} {x:Int}:bF ts x=true↔∃ (k:Nat) (t:ag),dA ts x=(k:Int) /\ ts[k]?=some t /\ t.no=x:=by
 unfold bF dA
 split
 ·rename_i i h
  obtain ⟨hi,h1,h2⟩:=List.findIdx?_eq_some_iff_getElem.1 h
  simp only [Bool.not_eq_true',decide_eq_false_iff_not]
  exact ⟨fun _=>⟨i,ts[i],rfl,List.getElem?_eq_getElem hi,by simpa using h1⟩,fun _=>by omega⟩
 ·simp only [Bool.not_eq_true',decide_eq_false_iff_not]
  exact ⟨fun h=>by omega,fun ⟨k,t,h,_⟩=>by omega⟩
theorem kh {ts:List ag} {x:Int} {k:Nat} {t:ag} (h:dA ts x=(k:Int)) (ht:ts[k]?=some t):de ts x=t:=by
 unfold de
 rw [h,Int.toNat_natCast,List.getD_eq_getElem?_getD,ht]
 rfl
theorem lU {ts:List ag} {k:Nat} {t:ag} (ht:ts[k]?=some t):ts.getD k ag.zero=t:=by
 rw [List.getD_eq_getElem?_getD,ht];rfl
theorem Ac {ts:List ag} {ls:List Lk} {no:Int} (h:(gx ts ls no != 0)=true):(∀ x∈ig ls no,bF ts x=true) /\ gx ts ls no=lj (ig ls no) /\ bF ts no=true /\ bF ts (gx ts ls no)=true:=by
 unfold gx at h ⊢
 split at h
 ·rename_i h1
  rw [List.all_eq_true] at h1
  refine ⟨h1,by rw [if_pos (by rw [List.all_eq_true];exact h1)],h1 no (List.mem_of_getElem? (Nq ls no)),?_⟩
  rw [if_pos (by rw [List.all_eq_true];exact h1)]
  exact h1 _ (List.mem_of_getElem? (rf (vm ls no)))
 ·simp at h
theorem vq (ts:List ag) (bZ:ag->Bool):∀ k,-1 <= dr ts bZ k /\ dr ts bZ k < k
 | 0=>by simp [dr]
 | k+1=>by
  have:=vq ts bZ k
  simp only [dr,lr]
  split <;> omega
theorem oI (ts:List ag) (bZ:ag->Bool):∀ k,k <= ts.length->(dr ts bZ k = -1 /\ ∀ (i:Nat) (s:ag),i < k->ts[i]?=some s->bZ s=false)∨∃ (j:Nat) (t:ag),dr ts bZ k=(j:Int) /\ j < k /\ ts[j]?=some t /\ bZ t=true /\ ∀ (i:Nat) (s:ag),i < k->ts[i]?=some s->bZ s=true->bh s t=false
 | 0,_ => .inl ⟨rfl,fun i s h=>by omega⟩
 | k+1,hk=>by
  have ih:=oI ts bZ k (by omega)
  have hu:ts[k]?=some ts[k]:=List.getElem?_eq_getElem (by omega)
  simp only [dr,lr]
  rw [lU hu]
  rcases ih with ⟨e,h⟩ | ⟨j,t,e,hj,ht,hc,h⟩
  ·rw [e]
   cases c:bZ ts[k]
   ·refine .inl ⟨by simp,fun i s hi hs => ?_⟩
    by_cases e2:i=k
    ·subst e2;rw [hu] at hs;cases hs;exact c
    ·exact h i s (by omega) hs
   ·refine .inr ⟨k,ts[k],by simp,by omega,hu,c,fun i s hi hs hcs => ?_⟩
    by_cases e2:i=k
    ·subst e2;rw [hu] at hs;cases hs;exact vV _
    ·rw [h i s (by omega) hs] at hcs;cases hcs
  ·rw [e,Int.toNat_natCast,lU ht]
   cases c:bZ ts[k]
   ·refine .inr ⟨j,t,by simp,by omega,ht,hc,fun i s hi hs hcs => ?_⟩
    by_cases e2:i=k
    ·subst e2;rw [hu] at hs;cases hs;rw [c] at hcs;cases hcs
    ·exact h i s (by omega) hs hcs
   ·cases hb:bh ts[k] t
    ·have hd:decide ((j:Int) < 0)=false:=by simp
     refine .inr ⟨j,t,by rw [hd];simp,by omega,ht,hc,fun i s hi hs hcs => ?_⟩
     by_cases e2:i=k
     ·subst e2;rw [hu] at hs;cases hs;exact hb
     ·exact h i s (by omega) hs hcs
    ·refine .inr ⟨k,ts[k],by simp,by omega,hu,c,fun i s hi hs hcs => ?_⟩
     by_cases e2:i=k
     ·subst e2;rw [hu] at hs;cases hs;exact vV _
     ·rw [Bool.eq_false_iff]
      intro h3
      have:=h i s (by omega) hs hcs
      rw [Bl h3 hb] at this
      cases this
section
variable {P:Program} {ops:Array Oper} {Q:Exit->Act->World->Prop} {md:Region.Mode} {S:World->Prop} {L:Nat}
def kD (P:Program) (md:Region.Mode) (ops:Array Oper) (Q:Exit->Act->World->Prop) (S:World->Prop) (L:Nat):Nat->Array Bool->Act->World->Prop
 | 0,listed,a,w=>Region.ready md ops listed=[] /\ Q .normal a w
 | n+1,listed,a,w=>(Region.ready md ops listed=[]->Q .normal a w) /\ ∀ i∈Region.ready md ops listed,wpOp P ops Q i (fun a' w'=>(i < L->S w') /\ kD P md ops Q S L n (listed.setIfInBounds i true) a' w') a w
theorem CV:∀ (n:Nat) (listed:Array Bool) (a:Act) (w:World),kD P md ops Q S L n listed a w->wpAny P md ops Q n listed a w
 | 0,_,_,_,h=>h
 | n+1,_,_,_,h=>⟨h.1,fun i hi=>wpOp_mono (fun a' w' h'=>CV n _ a' w' h'.2) (h.2 i hi)⟩
def wQ (md:Region.Mode) (ops:Array Oper) (L i:Nat):Bool:=(List.range ops.size).all fun j=>decide (j < L)||qc2 md ops j i
theorem Nr {i j:Nat} {listed:Array Bool} (h:wQ md ops L i=true) (hi:i∈Region.ready md ops listed) (hj:j∈Region.ready md ops listed):j < L:=by
 rcases Nat.lt_or_ge j L with h1 | h1
 ·exact h1
 ·exfalso
  obtain ⟨_,o,ho,_⟩:=mem_ready.1 hj
  have hs:j < ops.size:=(Array.getElem?_eq_some_iff.1 ho).1
  have h2:=List.all_eq_true.1 h j (List.mem_range.2 hs)
  rw [decide_eq_false (by omega),Bool.false_or] at h2
  exact wa h2 hi hj
theorem CW {i:Nat} {oi:Oper} {v:Value} (hi:ops[i]?=some oi) (hsel:∀ (j:Nat) (o:Oper) cs b,ops[j]?=some o->o.op ≠ .select cs b) (hL:wQ md ops L i=true)
  (hQ:∀ c a w,Q (.panic c) (a.put oi.dst v) w->Q (.panic c) a w) :
  ∀ (n:Nat) (listed:Array Bool) (a:Act) (w:World),(∀ j oj,ops[j]?=some oj->j≠i->listed.getD j true=false->(∀ e∈oj.after,Region.binds md e=true->e.on≠i)->oi.apart ops oj=true) ->
   i∈Region.ready md ops listed->YieldsIf P ops S oi v a->S w->kD P md ops Q S L n (listed.setIfInBounds i true) (a.put oi.dst v) w->kD P md ops Q S L (n+1) listed a w
 | 0,listed,a,w,_,hr,hy,hS,H=>by
  refine ⟨fun h=>(by rw [h] at hr;cases hr),fun j hj => ?_⟩
  by_cases hji:j=i
  ·subst hji;exact hy.wpOp hi hS ⟨fun _=>hS,H⟩
  ·have:=ready_mono hj hji
   rw [H.1] at this
   cases this
 | n+1,listed,a,w,hfree,hr,hy,hS,H=>by
  refine ⟨fun h=>(by rw [h] at hr;cases hr),fun j hj => ?_⟩
  by_cases hji:j=i
  ·subst hji;exact hy.wpOp hi hS ⟨fun _=>hS,H⟩
  ·have rW:j < L:=Nr hL hr hj
   have h1:=H.2 j (ready_mono hj hji)
   obtain ⟨hjun,oj,hoj,hall⟩:=mem_ready.1 hj
   have hnot:∀ e∈oj.after,Region.binds md e=true->e.on≠i:=fun e he hb heq=>by
    have h1:=hall e he hb
    have h0:=(mem_ready.1 hr).1
    rw [heq] at h1
    rcases Nat.lt_or_ge i listed.size with h' | h'
    ·simp [h'] at h0 h1;rw [h0] at h1;cases h1
    ·simp [Array.getElem?_eq_none h'] at h1
   have h2:=wpOp_putIf hoj (hfree j oj hoj hji hjun hnot) (fun cs b=>hsel i oi cs b hi) (fun cs b=>hsel j oj cs b hoj) hQ hy h1
   have hfree':∀ k ok,ops[k]?=some ok->k≠i->(listed.setIfInBounds j true).getD k true=false->(∀ e∈ok.after,Region.binds md e=true->e.on≠i)->oi.apart ops ok=true:=fun k ok hk hki hun hno=>by
    refine hfree k ok hk hki ?_ hno
    by_cases hjk:j=k
    ·subst hjk;exact hjun
    ·rw [getD_set_ne true hjk] at hun;exact hun
   refine wpOp_mono (fun a' w' h3=>⟨h3.2.1,CW hi hsel hL hQ n (listed.setIfInBounds j true) a' w' hfree' (ready_mono hr (Ne.symm hji)) h3.1 (h3.2.1 rW) ?_⟩) h2
   rw [Array.setIfInBounds_comm _ _ hji]
   exact h3.2.2
theorem mF {i:Nat} {R:List Nat} {oi:Oper} {v:Value} {n:Nat} {listed:Array Bool} {a:Act} {w:World} (hi:ops[i]?=some oi:=by simp only [jF];rfl)
  (hb:(Region.noSelect ops&&Region.free md ops listed i&&(Region.ready md ops listed).contains i&&wQ md ops L i)=true:=by kernel_rfl) (hQ:∀ c a w,Q (.panic c) (a.put oi.dst v) w->Q (.panic c) a w:=by exact fun _ _ _ h=>h) (hg:Region.wanted oi (yielded ops a.tmps)=true:=by rfl) (hS:S w:=by assumption)
  (hy:∀ w,S w->(execOp a.eval oi).run P w = .ok (.value v) w:=by intro w _;go_simp;try (with_reducible rfl)) (h:ad R (kD P md ops Q S L n (listed.setIfInBounds i true) (a.put oi.dst v) w)):ad (i::R) (kD P md ops Q S L (n+1) listed a w):=by
 simp only [Bool.and_eq_true] at hb
 exact CW hi (Region.noSelect_spec hb.1.1.1) hb.2 hQ n listed a w (Region.free_spec hi hb.1.1.2) (by simpa using hb.1.2) (Or.inl ⟨hg,hy⟩) hS h
theorem rq {i:Nat} {o:Oper} {n:Nat} {listed:Array Bool} {a:Act} {w:World} (hr:Region.ready md ops listed=[i]:=by kernel_rfl) (ho:ops[i]?=some o:=by simp only [jF];rfl)
  (h:∀ K':Act->World->Prop,Shut (∀ a w,S w->(S w->kD P md ops Q S L n (listed.setIfInBounds i true) a w)->K' a w)->if Region.wanted o (yielded ops a.tmps)=true then Oper.wp P o a w K' Q else K' (a.put o.dst undef) w):kD P md ops Q S L (n+1) listed a w:=by
 refine ⟨fun e=>absurd (hr ▸ e) (by simp),fun j hj => ?_⟩
 rw [hr] at hj
 obtain rfl:j=i:=by simpa using hj
 exact wpOp_step ho (fun K' hK=>h K' (fun a w hS hW=>hK a w ⟨fun _=>hS,hW hS⟩))
theorem ny {i:Nat} {o:Oper} {n:Nat} {listed:Array Bool} {a:Act} {w:World} (hr:Region.ready md ops listed=[i]:=by kernel_rfl) (hi:(decide (L <= i))=true:=by decide) (ho:ops[i]?=some o:=by simp only [jF];rfl)
  (h:∀ K':Act->World->Prop,Shut (∀ a w,kD P md ops Q S L n (listed.setIfInBounds i true) a w->K' a w)->if Region.wanted o (yielded ops a.tmps)=true then Oper.wp P o a w K' Q else K' (a.put o.dst undef) w):kD P md ops Q S L (n+1) listed a w:=by
 refine ⟨fun e=>absurd (hr ▸ e) (by simp),fun j hj => ?_⟩
 rw [hr] at hj
 obtain rfl:j=i:=by simpa using hj
 have hi':L <= j:=of_decide_eq_true hi
 exact wpOp_step ho (fun K' hK=>h K' (fun a w hW=>hK a w ⟨fun e=>absurd e (by omega),hW⟩))
theorem AJ {n:Nat} {listed:Array Bool} {a:Act} {w:World} (hr:Region.ready md ops listed=[]) (h:Q .normal a w):kD P md ops Q S L n listed a w:=by
 cases n with
 | zero=>exact ⟨hr,h⟩
 | succ n=>exact ⟨fun _=>h,by rw [hr];simp⟩
theorem AI (L:Nat) {id:Nat} {a:Act} {w:World} (hm:P.follows .mixedOrders=true) (hS:S w.drew)
  (h:S w.drew->kD P .any ops Q S L ops.size (Array.replicate ops.size false) a w.drew):(Code.region id ops true).wp P Q a w :=
 wp_region_any hm (CV _ _ _ _ (h hS))
end
end
theorem Mb {b1 b2 b3 b4 b5 b6 b7 b8 b9 b10 b11 b12 b13 b14 b15 b16 b17 b18 b19 b20 CX CZ C7 C8 C9 Da Db Dc Dd De Df b32:Bool} (h1:b1=true) (h2:b2=true) (h3:b3=true) (h4:b4=true) (h5:b5=true) (h6:b6=true) (h7:b7=true) (h8:b8=true) (h9:b9=true) (h10:b10=true) (h11:b11=true) (h12:b12=true) (nL:b13=true) (PJ:b14=true) (PK:b15=true) (h16:b16=true) (PM:b17=true) (h18:b18=true) (h19:b19=true) (h20:b20=true) (h21:CX=true) (h22:CZ=true) (h23:C7=true) (PN:C8=true) (PO:C9=true) (PQ:Da=true) (h27:Db=true) (PR:Dc=true) (PS:Dd=true) (PT:De=true) (h31:Df=true) (h32:b32=true):(b1&&b2&&b3&&b4&&b5&&b6&&b7&&b8&&b9&&b10&&b11&&b12&&b13&&b14&&b15&&b16&&b17&&b18&&b19&&b20&&CX&&CZ&&C7&&C8&&C9&&Da&&Db&&Dc&&Dd&&De&&Df&&b32)=true:=by
 subst_vars
 rfl
def qc1:List Char:=[Char.ofNat 104,Char.ofNat 97,Char.ofNat 114,Char.ofNat 110,Char.ofNat 101,Char.ofNat 115,Char.ofNat 115,Char.ofNat 32,Char.ofNat 97,Char.ofNat 102,Char.ofNat 97,Char.ofNat 49,Char.ofNat 102,Char.ofNat 57,Char.ofNat 98,Char.ofNat 102,Char.ofNat 55,Char.ofNat 53,Char.ofNat 100,Char.ofNat 53,Char.ofNat 49,Char.ofNat 50,Char.ofNat 97,Char.ofNat 50,Char.ofNat 97,Char.ofNat 101,Char.ofNat 56,Char.ofNat 97,Char.ofNat 97,Char.ofNat 99,Char.ofNat 51,Char.ofNat 56,Char.ofNat 50,Char.ofNat 49,Char.ofNat 53,Char.ofNat 49,Char.ofNat 97,Char.ofNat 54,Char.ofNat 100,Char.ofNat 97,Char.ofNat 54,Char.ofNat 99,Char.ofNat 98,Char.ofNat 53,Char.ofNat 48,Char.ofNat 100,Char.ofNat 99,Char.ofNat 55,Char.ofNat 102,Char.ofNat 50,Char.ofNat 53,Char.ofNat 55,Char.ofNat 54,Char.ofNat 49,Char.ofNat 53,Char.ofNat 98,Char.ofNat 52,Char.ofNat 101,Char.ofNat 50,Char.ofNat 97,Char.ofNat 48,Char.ofNat 100,Char.ofNat 100,Char.ofNat 100,Char.ofNat 52,Char.ofNat 57,Char.ofNat 48,Char.ofNat 57,Char.ofNat 102,Char.ofNat 101,Char.ofNat 57,Char.ofNat 55,Char.ofNat 32,Char.ofNat 99,Char.ofNat 117,Char.ofNat 116,Char.ofNat 32,Char.ofNat 97,Char.ofNat 116,Char.ofNat 32,Char.ofNat 108,Char.ofNat 111,Char.ofNat 111,Char.ofNat 112,Char.ofNat 46,Char.ofNat 101,Char.ofNat 120,Char.ofNat 97,Char.ofNat 109,Char.ofNat 112,Char.ofNat 108,Char.ofNat 101,Char.ofNat 47,Char.ofNat 103,Char.ofNat 48,Char.ofNat 48,Char.ofNat 49,Char.ofNat 56,Char.ofNat 53,Char.ofNat 47,Char.ofNat 108,Char.ofNat 97,Char.ofNat 119,Char.ofNat 115,Char.ofNat 46,Char.ofNat 70,Char.ofNat 110,Char.ofNat 76,Char.ofNat 101,Char.ofNat 110,Char.ofNat 116,Char.ofNat 32,Char.ofNat 108,Char.ofNat 111,Char.ofNat 111,Char.ofNat 112,Char.ofNat 46,Char.ofNat 101,Char.ofNat 120,Char.ofNat 97,Char.ofNat 109,Char.ofNat 112,Char.ofNat 108,Char.ofNat 101,Char.ofNat 47,Char.ofNat 103,Char.ofNat 48,Char.ofNat 48,Char.ofNat 49,Char.ofNat 56,Char.ofNat 53,Char.ofNat 47,Char.ofNat 108,Char.ofNat 97,Char.ofNat 119,Char.ofNat 115,Char.ofNat 46,Char.ofNat 70,Char.ofNat 110,Char.ofNat 71,Char.ofNat 104,Char.ofNat 111,Char.ofNat 115,Char.ofNat 116,Char.ofNat 115,Char.ofNat 32,Char.ofNat 108,Char.ofNat 111,Char.ofNat 111,Char.ofNat 112,Char.ofNat 46,Char.ofNat 101,Char.ofNat 120,Char.ofNat 97,Char.ofNat 109,Char.ofNat 112,Char.ofNat 108,Char.ofNat 101,Char.ofNat 47,Char.ofNat 103,Char.ofNat 48,Char.ofNat 48,Char.ofNat 49,Char.ofNat 56,Char.ofNat 53,Char.ofNat 47,Char.ofNat 108,Char.ofNat 97,Char.ofNat 119,Char.ofNat 115,Char.ofNat 46,Char.ofNat 70,Char.ofNat 110,Char.ofNat 82,Char.ofNat 101,Char.ofNat 102,Char.ofNat 117,Char.ofNat 115,Char.ofNat 101,Char.ofNat 100,Char.ofNat 80,Char.ofNat 97,Char.ofNat 114,Char.ofNat 116,Char.ofNat 115]
theorem wR:Tryz.pinned.checked.prog.initOrder.toList=qc1:=by
 have h:Tryz.pinned.checked.prog.initOrder=String.ofList qc1:=String.toByteArray_inj.1 (by kernel_rfl)
 rw [h,String.toList_ofList]
theorem Nt (P:Program) (h:P.initOrder.toList=qc1):P.liftsFinal=false:=by
 unfold Program.liftsFinal Program.headLifts
 rw [h]
 kernel_rfl
theorem Md:Tryz.pinned.checked.prog.liftsFinal=false:=Nt _ wR
theorem Nu (P:Program) (h:P.initOrder.toList=qc1):P.make=some .cut:=by
 unfold Program.make
 rw [h]
 kernel_rfl
theorem Me:Tryz.pinned.checked.prog.make=some .cut:=Nu _ wR
theorem Nv:stripLifts liftWords (behindMainWord (wordsSigns qc1))=([],behindMainWord (wordsSigns qc1)):=by kernel_rfl
theorem Nw (P:Program) (h:P.initOrder.toList=qc1) (h1:P.laysLater=false) (h2:P.bearsReflect=false) (h3:P.doorFits []=true):P.mayEnter=true:=by
 have hh:((behindMainWord (wordsSigns qc1)).head?==some "cut".toList)=true:=by kernel_rfl
 have hs:=Nv
 unfold Program.mayEnter
 rw [h]
 generalize behindMainWord (wordsSigns qc1)=L at hh hs ⊢
 cases L with
 | nil=>cases hh
 | cons c rest =>
  simp only [hs,hh,h1,h2,h3]
  simp
theorem Nx:Tryz.pinned.checked.prog.laysLater=false:=by kernel_rfl
theorem Ny:Tryz.pinned.checked.prog.bearsReflect=false:=by kernel_rfl
theorem Nz:Tryz.pinned.checked.prog.doorFits []=true:=by kernel_rfl
theorem Mc:Tryz.pinned.checked.prog.mayEnter=true:=Nw _ wR Nx Ny Nz
section
open Go.RowKit
theorem nr (ls:List Lk):ls.length <= bT ls:=by unfold bT;omega
structure On (w:World) (a:Option Addr) (m cap:Nat) (ls:List Lk):Prop where
 len:ls.length=m
 size:bT ls <= 2097152
 gP:dU true w a ls
 pl:Plain w a m cap
theorem On.keeps {w w':World} {a:Option Addr} {m cap:Nat} {ls:List Lk} (h:On w a m cap ls) (k:aa w w'):On w' a m cap ls:=⟨h.len,h.size,h.gP.keeps k,h.pl.keeps k⟩
theorem On.small {w:World} {a:Option Addr} {m cap:Nat} {ls:List Lk} (h:On w a m cap ls):ls.length <= maxLen:=by have:=nr ls;have:=h.size;unfold maxLen;omega
theorem On.of {w:World} {lo hi:Nat} {v:Value} {vs:List Lv} {ls:List Lk} (M:Mine w lo hi v vs ls) (h:bT ls <= 2097152):∃ a cap,v = .slice a ls.length cap /\ On w a ls.length cap ls:=by
 obtain ⟨a,cap,e,L,P,-⟩:=M.args
 exact ⟨a,cap,e,rfl,h,L,P⟩
section calls
variable {w w':World} {a:Option Addr} {m cap:Nat} {ls:List Lk}
theorem On.lD (h:On w a m cap ls) {z:Bool} (hz:dm ls=z) (k:aa w w'):Calls Tryz.prog 70 #[.slice a m cap] w' fun e w''=>e = .returned (.bool z) /\ aa w' w'':=by
 have h':=h.keeps k
 have:=tY a cap ls w' h'.size h'.gP
 rw [h'.len,hz] at this
 exact this
theorem On.at (h:On w a m cap ls) {i:Nat} {l:Lk} (hl:ls[i]?=some l):i < m /\ ∃ b off a' cap',a=some ⟨b,off,none⟩ /\ (∀ w',aa w w'->w'.cell? ⟨b,off+i*2,none⟩=some (.int .i64 l.owner)) /\ (∀ w',aa w w'->w'.cell? ⟨b,off+i*2+1,none⟩=some (.slice a' l.waits.length cap')) /\ l.waits.length <= maxLen /\ Ns w a' l.waits :=
 ⟨by rw [<- h.len];exact da hl,h.gP.at hl⟩
theorem On.oD (h:On w a m cap ls) (x:Int) (k:aa w w'):Calls Tryz.prog 110 #[.slice a m cap,.int .i64 x] w' fun e w''=>∃ v,e = .returned (.tuple #[v,.bool (cO ls (ls.length+1) x).2]) /\ aS w'' w'.heap.size v (cO ls (ls.length+1) x).1 /\ aa w' w'':=by
 have h':=h.keeps k
 have:=tX a cap ls x w' (by have:=nr ls;have:=h'.size;omega) h'.gP
 rw [h'.len] at this
 rw [h'.len]
 exact this
theorem On.all (h:On w a m cap ls) (hm:0 < m):∃ b off,a=some ⟨b,off,none⟩ /\ ∀ (i:Nat) (l:Lk),ls[i]?=some l->∃ a' cap',(∀ w',aa w w'->w'.cell? ⟨b,off+i*2,none⟩=some (.int .i64 l.owner)) /\ (∀ w',aa w w'->w'.cell? ⟨b,off+i*2+1,none⟩=some (.slice a' l.waits.length cap')) /\ l.waits.length <= maxLen /\ Ns w a' l.waits:=by
 obtain ⟨l0,h0⟩:=bW (xs:=ls) (k:=0) (by rw [h.len];exact hm)
 obtain ⟨-,b,off,_,_,rfl,-⟩:=h.at h0
 refine ⟨b,off,rfl,fun i l hl => ?_⟩
 obtain ⟨-,b',off',a',cap',e,r⟩:=h.at hl
 simp only [Option.some.injEq,Addr.mk.injEq] at e
 obtain ⟨rfl,rfl,-⟩:=e
 exact ⟨a',cap',r⟩
end calls
theorem Ns.take {w:World} {a:Option Addr} {xs:List Int} (h:Ns w a xs) (k:Nat):Ns w a (xs.take k):=by
 rcases h with rfl | ⟨b,off,rfl,hb,h⟩
 ·exact .inl (by simp)
 ·refine .inr ⟨b,off,rfl,hb,fun i x hx=>h i x ?_⟩
  rw [List.getElem?_take] at hx
  split at hx
  ·exact hx
  ·cases hx
theorem aS.cells {w:World} {base:Nat} {v:Value} {xs:List Int} (h:aS w base v xs) (hp:0 < xs.length):∃ b cap,v = .slice (some ⟨b,0,none⟩) xs.length cap /\ xs.length <= cap /\ ∀ (k:Nat) (x:Int),xs[k]?=some x->∀ w',aa w w'->w'.cell? ⟨b,k,none⟩=some (.int .i64 x):=by
 obtain ⟨b,cap,rfl⟩:=Own.blk h hp
 obtain ⟨_,_,e,_,h1,_⟩:=aS.ns h
 simp only [Value.slice.injEq] at e
 obtain ⟨rfl,-,rfl⟩:=e
 refine ⟨b,cap,rfl,h1,fun k x hx=>aa.has ?_⟩
 have:=Own.cellAt h fW (i:=k) (k:=0) hx (by omega)
 simpa using this
end
section
open Go.RowKit
attribute [local go_sem] aa.refl aa.alloc aa.drew aa.drewN
theorem NA {α β:Type} (f:β->α->β) (a:β) {ts:List α} {k:Nat} {t:α} (h:ts[k]?=some t):(ts.take (k+1)).foldl f a=f ((ts.take k).foldl f a) t:=by
 have hk:k < ts.length:=by
  rcases Nat.lt_or_ge k ts.length with h' | h'
  ·exact h'
  ·simp [List.getElem?_eq_none h'] at h
 rw [List.getElem?_eq_getElem hk] at h
 rw [List.take_succ_eq_append_getElem hk,List.foldl_append]
 simp only [Option.some.injEq] at h
 rw [h]
 rfl
theorem NC {α β:Type} (f:β->α->β) (a:β) {ts:List α} {k:Nat} (h:ts.length <= k):(ts.take k).foldl f a=ts.foldl f a:=by rw [List.take_of_length_le h]
set_option maxHeartbeats 2000000 in
theorem Dg (a:Option Addr) (cap:Nat) (ts:List ag) (floor:Int) (w:World) (hl:ts.length <= maxLen) (hs:Ts w a ts) :
  Calls Tryz.prog 178 #[.slice a ts.length cap,.int .i64 floor] w fun e w'=>e = .returned (.int .i64 (lJ ts floor)) /\ aa w w':=by
 unfold maxLen at hl
 generalize hn:ts.length=n at hl
 have Hn:Hid (ts.length=n):=hn
 clear hn
 go_enter Tryz.func178,Tryz.ntmps178
 go_wp2
 go_loopw [5,6] (fun l i wr=>∃ k:Nat,k <= n /\ i = .int .i64 k /\ l = .int .i64 ((ts.take k).foldl eX (-1)) /\ aa w wr) (fun _ i _=>n - (intOf i).toNat)
 case atStart=>exact ⟨0,Nat.zero_le _,rfl,rfl,aa.refl _⟩
 case round =>
  obtain ⟨k,hk,rfl,rfl,hK⟩:=hrel
  by_cases hlt:k < n
  ·obtain ⟨t,ht⟩:=iW (xs:=ts) (k:=k) (by rw [Hn.out];exact hlt)
   obtain ⟨b,off,rfl,r0,r1⟩:=hs.at ht (by omega)
   have hlt':(k:Int) < (n:Int):=by omega
   have Ht:Hid ((ts.take (k+1)).foldl eX (-1)=eX ((ts.take k).foldl eX (-1)) t):=NA _ _ ht
   clear hs ht
   generalize (ts.take k).foldl eX (-1)=L at *
   cases hf:dY t
   ·have HL:Hid (eX L t=L):=by show _=_;simp [eX,hf]
    go_wp2_with (go_at_call 184;refine (mP t _).mono ?_;rintro e w1 ⟨rfl,k1⟩;have K1:=hK.trans k1;rw [hf])
    exact ⟨⟨k+1,by omega,by go_num,by rw [Ht.out,HL.out],K1⟩,by simp only [intOf];omega⟩
   ·cases h1:decide (L < 0)
    ·cases h2:decide (t.v < L)
     ·have HL:Hid (eX L t=L):=by show _=_;simp only [eX,hf,h1,h2,Bool.or_false,Bool.and_false,Bool.false_eq_true,if_false]
      go_wp2_with (go_at_call 184;refine (mP t _).mono ?_;rintro e w1 ⟨rfl,k1⟩;have K1:=hK.trans k1;rw [hf])
      exact ⟨⟨k+1,by omega,by go_num,by rw [Ht.out,HL.out],K1⟩,by simp only [intOf];omega⟩
     ·have HL:Hid (eX L t=t.v):=by show _=_;simp only [eX,hf,h2,Bool.or_true,Bool.and_true,if_true]
      go_wp2_with (go_at_call 184;refine (mP t _).mono ?_;rintro e w1 ⟨rfl,k1⟩;have K1:=hK.trans k1;rw [hf])
      exact ⟨⟨k+1,by omega,by go_num,by rw [Ht.out,HL.out],K1⟩,by simp only [intOf];omega⟩
    ·have HL:Hid (eX L t=t.v):=by show _=_;simp only [eX,hf,h1,Bool.true_or,Bool.and_true,if_true]
     go_wp2_with (go_at_call 184;refine (mP t _).mono ?_;rintro e w1 ⟨rfl,k1⟩;have K1:=hK.trans k1;rw [hf])
     exact ⟨⟨k+1,by omega,by go_num,by rw [Ht.out,HL.out],K1⟩,by simp only [intOf];omega⟩
  ·have hlt':decide ((k:Int) < (n:Int))=false:=by simp;omega
   rw [NC eX (-1) (show ts.length <= k by have:=Hn.out;omega)]
   have HV:Hid (lJ ts floor=if ts.foldl eX (-1) < 0 then floor else max floor (ts.foldl eX (-1))):=rfl
   generalize ts.foldl eX (-1)=L at *
   clear hs
   cases h1:decide (L < 0)
   ·have HL:Hid (lJ ts floor=max floor L):=by show _=_;rw [HV.out,if_neg (of_decide_eq_false h1)]
    go_wp2_with (go_at_call 56;refine (mO _ _ _).mono ?_;rintro e w' ⟨rfl,hw'⟩;have hw2:=hw'.symm;subst hw2)
    go_ret
    exact ⟨by rw [HL.out];rfl,hK⟩
   ·have HL:Hid (lJ ts floor=floor):=by show _=_;rw [HV.out,if_pos (of_decide_eq_true h1)]
    go_wp2
    go_ret
    exact ⟨by rw [HL.out];rfl,hK⟩
end
end Go.Proofs.YteagpjlgjfaclaaGreatDoor
