/-
  A region that draws its order and ends in several stores, o
  Closed facts on the program as a whole that every statement
  Rows of locks: made anew, marked, and looked at again.
  The greatest common divisor: contracts of the program's and
-/
import Derived.Test.YteagpjlgjfaclaaGreatDoorTaskBase
import Derived.Test.YteagpjlgjfaclaaGreatDoorFrame
namespace Go.Proofs.YteagpjlgjfaclaaGreatDoor
set_option maxRecDepth 100000
open Go.RowKit
section
variable {P:Program} {ops:Array Oper} {Q:Exit->Act->World->Prop} {md:Region.Mode} {S:World->Prop} {L:Nat}
def qb8 (P:Program) (md:Region.Mode) (ops:Array Oper) (Q:Exit->Act->World->Prop) (S:World->Prop) (L:Nat):Nat->Array Bool->Act->World->Prop
 | 0,listed,a,w=>Region.ready md ops listed=[] /\ Q .normal a w
 | n+1,listed,a,w=>(Region.ready md ops listed=[]->Q .normal a w) /\ ∀ i∈Region.ready md ops listed,wpOp P ops Q i (fun a' w'=>(i < L->S w') /\ qb8 P md ops Q S L n (listed.setIfInBounds i true) a' w') a w
theorem qgb:∀ (n:Nat) (listed:Array Bool) (a:Act) (w:World),qb8 P md ops Q S L n listed a w->wpAny P md ops Q n listed a w
 | 0,_,_,_,h=>h
 | n+1,_,_,_,h=>⟨h.1,fun i hi=>wpOp_mono (fun a' w' h'=>qgb n _ a' w' h'.2) (h.2 i hi)⟩
def qe1 (md:Region.Mode) (ops:Array Oper) (L i:Nat):Bool:=(List.range ops.size).all fun j=>decide (j < L)||qcJ md ops j i
theorem qjj {i j:Nat} {listed:Array Bool} (h:qe1 md ops L i=true) (hi:i∈Region.ready md ops listed) (hj:j∈Region.ready md ops listed):j < L:=by
 rcases Nat.lt_or_ge j L with h1 | h1
 ·exact h1
 ·exfalso
  obtain ⟨_,o,ho,_⟩:=mem_ready.1 hj
  have hs:j < ops.size:=(Array.getElem?_eq_some_iff.1 ho).1
  have h2:=List.all_eq_true.1 h j (List.mem_range.2 hs)
  rw [decide_eq_false (by omega),Bool.false_or] at h2
  exact qff h2 hi hj
theorem qgc {i:Nat} {oi:Oper} {v:Value} (hi:ops[i]?=some oi) (hsel:∀ (j:Nat) (o:Oper) cs b,ops[j]?=some o->o.op ≠ .select cs b) (hL:qe1 md ops L i=true)
  (hQ:∀ c a w,Q (.panic c) (a.put oi.dst v) w->Q (.panic c) a w) :
  ∀ (n:Nat) (listed:Array Bool) (a:Act) (w:World),(∀ j oj,ops[j]?=some oj->j≠i->listed.getD j true=false->(∀ e∈oj.after,Region.binds md e=true->e.on≠i)->oi.apart ops oj=true) ->
   i∈Region.ready md ops listed->YieldsIf P ops S oi v a->S w->qb8 P md ops Q S L n (listed.setIfInBounds i true) (a.put oi.dst v) w->qb8 P md ops Q S L (n+1) listed a w
 | 0,listed,a,w,_,hr,hy,hS,H=>by
  refine ⟨fun h=>(by rw [h] at hr;cases hr),fun j hj => ?_⟩
  by_cases hji:j=i
  ·subst hji;exact hy.wpOp hi hS ⟨fun _=>hS,H⟩
  ·have:=ready_mono hj hji
   rw [H.1] at this
   cases this
 | n+1,listed,a,w,hfree,hr,hy,hS,H=>by
  refine ⟨fun h=>(by rw [h] at hr;cases hr),fun j hj => ?_⟩
  by_cases hji:j=i
  ·subst hji;exact hy.wpOp hi hS ⟨fun _=>hS,H⟩
  ·have hjL:j < L:=qjj hL hr hj
   have h1:=H.2 j (ready_mono hj hji)
   obtain ⟨hjun,oj,hoj,hall⟩:=mem_ready.1 hj
   have hnot:∀ e∈oj.after,Region.binds md e=true->e.on≠i:=fun e he hb heq=>by
    have h1:=hall e he hb
    have h0:=(mem_ready.1 hr).1
    rw [heq] at h1
    rcases Nat.lt_or_ge i listed.size with h' | h'
    ·simp [h'] at h0 h1;rw [h0] at h1;cases h1
    ·simp [Array.getElem?_eq_none h'] at h1
   have h2:=wpOp_putIf hoj (hfree j oj hoj hji hjun hnot) (fun cs b=>hsel i oi cs b hi) (fun cs b=>hsel j oj cs b hoj) hQ hy h1
   have hfree':∀ k ok,ops[k]?=some ok->k≠i->(listed.setIfInBounds j true).getD k true=false->(∀ e∈ok.after,Region.binds md e=true->e.on≠i)->oi.apart ops ok=true:=fun k ok hk hki hun hno=>by
    refine hfree k ok hk hki ?_ hno
    by_cases hjk:j=k
    ·subst hjk;exact hjun
    ·rw [getD_set_ne true hjk] at hun;exact hun
   refine wpOp_mono (fun a' w' h3=>⟨h3.2.1,qgc hi hsel hL hQ n (listed.setIfInBounds j true) a' w' hfree' (ready_mono hr (Ne.symm hji)) h3.1 (h3.2.1 hjL) ?_⟩) h2
   rw [Array.setIfInBounds_comm _ _ hji]
   exact h3.2.2
theorem farL {i:Nat} {R:List Nat} {oi:Oper} {v:Value} {n:Nat} {listed:Array Bool} {a:Act} {w:World} (hi:ops[i]?=some oi)
  (hb:(Region.noSelect ops&&Region.free md ops listed i&&(Region.ready md ops listed).contains i&&qe1 md ops L i)=true) (hQ:∀ c a w,Q (.panic c) (a.put oi.dst v) w->Q (.panic c) a w) (hg:Region.wanted oi (yielded ops a.tmps)=true) (hS:S w)
  (hy:∀ w,S w->(execOp a.eval oi).run P w = .ok (.value v) w) (h:Plan R (qb8 P md ops Q S L n (listed.setIfInBounds i true) (a.put oi.dst v) w)):Plan (i::R) (qb8 P md ops Q S L (n+1) listed a w):=by
 simp only [Bool.and_eq_true] at hb
 exact qgc hi (Region.noSelect_spec hb.1.1.1) hb.2 hQ n listed a w (Region.free_spec hi hb.1.1.2) (by simpa using hb.1.2) (Or.inl ⟨hg,hy⟩) hS h
theorem qd0 {i:Nat} {o:Oper} {n:Nat} {listed:Array Bool} {a:Act} {w:World} (hr:Region.ready md ops listed=[i]) (ho:ops[i]?=some o)
  (h:∀ K':Act->World->Prop,Shut (∀ a w,S w->(S w->qb8 P md ops Q S L n (listed.setIfInBounds i true) a w)->K' a w)->if Region.wanted o (yielded ops a.tmps)=true then Oper.wp P o a w K' Q else K' (a.put o.dst undef) w):qb8 P md ops Q S L (n+1) listed a w:=by
 refine ⟨fun e=>absurd (hr ▸ e) (by simp),fun j hj => ?_⟩
 rw [hr] at hj
 obtain rfl:j=i:=by simpa using hj
 exact wpOp_step ho (fun K' hK=>h K' (fun a w hS hW=>hK a w ⟨fun _=>hS,hW hS⟩))
theorem qc2 {i:Nat} {o:Oper} {n:Nat} {listed:Array Bool} {a:Act} {w:World} (hr:Region.ready md ops listed=[i]) (hi:(decide (L <= i))=true) (ho:ops[i]?=some o)
  (h:∀ K':Act->World->Prop,Shut (∀ a w,qb8 P md ops Q S L n (listed.setIfInBounds i true) a w->K' a w)->if Region.wanted o (yielded ops a.tmps)=true then Oper.wp P o a w K' Q else K' (a.put o.dst undef) w):qb8 P md ops Q S L (n+1) listed a w:=by
 refine ⟨fun e=>absurd (hr ▸ e) (by simp),fun j hj => ?_⟩
 rw [hr] at hj
 obtain rfl:j=i:=by simpa using hj
 have hi':L <= j:=of_decide_eq_true hi
 exact wpOp_step ho (fun K' hK=>h K' (fun a w hW=>hK a w ⟨fun e=>absurd e (by omega),hW⟩))
theorem qgd {n:Nat} {listed:Array Bool} {a:Act} {w:World} (hr:Region.ready md ops listed=[]) (h:Q .normal a w):qb8 P md ops Q S L n listed a w:=by
 cases n with
 | zero=>exact ⟨hr,h⟩
 | succ n=>exact ⟨fun _=>h,by rw [hr];simp⟩
theorem qge (L:Nat) {id:Nat} {a:Act} {w:World} (hm:P.follows .mixedOrders=true) (hS:S w.drew)
  (h:S w.drew->qb8 P .any ops Q S L ops.size (Array.replicate ops.size false) a w.drew):(Code.region id ops true).wp P Q a w :=
 wp_region_any hm (qgb _ _ _ _ (h hS))
end
end Go.Proofs.YteagpjlgjfaclaaGreatDoor
namespace Go.Proofs.YteagpjlgjfaclaaGreatDoor
set_option maxRecDepth 100000
theorem qkD {b1 b2 b3 b4 b5 b6 b7 b8 b9 b10 b11 b12 b13 b14 b15 b16 b17 b18 b19 b20 b21 b22 b23 b24 b25 b26 b27 b28 b29 b30 b31 b32:Bool} (h1:b1=true) (h2:b2=true) (h3:b3=true) (h4:b4=true) (h5:b5=true) (h6:b6=true) (h7:b7=true) (h8:b8=true) (h9:b9=true) (h10:b10=true) (h11:b11=true) (h12:b12=true) (h13:b13=true) (h14:b14=true) (h15:b15=true) (h16:b16=true) (h17:b17=true) (h18:b18=true) (h19:b19=true) (h20:b20=true) (h21:b21=true) (h22:b22=true) (h23:b23=true) (h24:b24=true) (h25:b25=true) (h26:b26=true) (h27:b27=true) (h28:b28=true) (h29:b29=true) (h30:b30=true) (h31:b31=true) (h32:b32=true):(b1&&b2&&b3&&b4&&b5&&b6&&b7&&b8&&b9&&b10&&b11&&b12&&b13&&b14&&b15&&b16&&b17&&b18&&b19&&b20&&b21&&b22&&b23&&b24&&b25&&b26&&b27&&b28&&b29&&b30&&b31&&b32)=true:=by
 subst_vars
 rfl
def qcI:List Char:=[Char.ofNat 104,Char.ofNat 97,Char.ofNat 114,Char.ofNat 110,Char.ofNat 101,Char.ofNat 115,Char.ofNat 115,Char.ofNat 32,Char.ofNat 97,Char.ofNat 102,Char.ofNat 97,Char.ofNat 49,Char.ofNat 102,Char.ofNat 57,Char.ofNat 98,Char.ofNat 102,Char.ofNat 55,Char.ofNat 53,Char.ofNat 100,Char.ofNat 53,Char.ofNat 49,Char.ofNat 50,Char.ofNat 97,Char.ofNat 50,Char.ofNat 97,Char.ofNat 101,Char.ofNat 56,Char.ofNat 97,Char.ofNat 97,Char.ofNat 99,Char.ofNat 51,Char.ofNat 56,Char.ofNat 50,Char.ofNat 49,Char.ofNat 53,Char.ofNat 49,Char.ofNat 97,Char.ofNat 54,Char.ofNat 100,Char.ofNat 97,Char.ofNat 54,Char.ofNat 99,Char.ofNat 98,Char.ofNat 53,Char.ofNat 48,Char.ofNat 100,Char.ofNat 99,Char.ofNat 55,Char.ofNat 102,Char.ofNat 50,Char.ofNat 53,Char.ofNat 55,Char.ofNat 54,Char.ofNat 49,Char.ofNat 53,Char.ofNat 98,Char.ofNat 52,Char.ofNat 101,Char.ofNat 50,Char.ofNat 97,Char.ofNat 48,Char.ofNat 100,Char.ofNat 100,Char.ofNat 100,Char.ofNat 52,Char.ofNat 57,Char.ofNat 48,Char.ofNat 57,Char.ofNat 102,Char.ofNat 101,Char.ofNat 57,Char.ofNat 55,Char.ofNat 32,Char.ofNat 99,Char.ofNat 117,Char.ofNat 116,Char.ofNat 32,Char.ofNat 97,Char.ofNat 116,Char.ofNat 32,Char.ofNat 108,Char.ofNat 111,Char.ofNat 111,Char.ofNat 112,Char.ofNat 46,Char.ofNat 101,Char.ofNat 120,Char.ofNat 97,Char.ofNat 109,Char.ofNat 112,Char.ofNat 108,Char.ofNat 101,Char.ofNat 47,Char.ofNat 103,Char.ofNat 48,Char.ofNat 48,Char.ofNat 49,Char.ofNat 56,Char.ofNat 53,Char.ofNat 47,Char.ofNat 108,Char.ofNat 97,Char.ofNat 119,Char.ofNat 115,Char.ofNat 46,Char.ofNat 70,Char.ofNat 110,Char.ofNat 76,Char.ofNat 101,Char.ofNat 110,Char.ofNat 116,Char.ofNat 32,Char.ofNat 108,Char.ofNat 111,Char.ofNat 111,Char.ofNat 112,Char.ofNat 46,Char.ofNat 101,Char.ofNat 120,Char.ofNat 97,Char.ofNat 109,Char.ofNat 112,Char.ofNat 108,Char.ofNat 101,Char.ofNat 47,Char.ofNat 103,Char.ofNat 48,Char.ofNat 48,Char.ofNat 49,Char.ofNat 56,Char.ofNat 53,Char.ofNat 47,Char.ofNat 108,Char.ofNat 97,Char.ofNat 119,Char.ofNat 115,Char.ofNat 46,Char.ofNat 70,Char.ofNat 110,Char.ofNat 71,Char.ofNat 104,Char.ofNat 111,Char.ofNat 115,Char.ofNat 116,Char.ofNat 115,Char.ofNat 32,Char.ofNat 108,Char.ofNat 111,Char.ofNat 111,Char.ofNat 112,Char.ofNat 46,Char.ofNat 101,Char.ofNat 120,Char.ofNat 97,Char.ofNat 109,Char.ofNat 112,Char.ofNat 108,Char.ofNat 101,Char.ofNat 47,Char.ofNat 103,Char.ofNat 48,Char.ofNat 48,Char.ofNat 49,Char.ofNat 56,Char.ofNat 53,Char.ofNat 47,Char.ofNat 108,Char.ofNat 97,Char.ofNat 119,Char.ofNat 115,Char.ofNat 46,Char.ofNat 70,Char.ofNat 110,Char.ofNat 82,Char.ofNat 101,Char.ofNat 102,Char.ofNat 117,Char.ofNat 115,Char.ofNat 101,Char.ofNat 100,Char.ofNat 80,Char.ofNat 97,Char.ofNat 114,Char.ofNat 116,Char.ofNat 115]
theorem qfd:Tryz.pinned.checked.prog.initOrder.toList=qcI:=by
 have h:Tryz.pinned.checked.prog.initOrder=String.ofList qcI:=String.toByteArray_inj.1 (by kernel_rfl)
 rw [h,String.toList_ofList]
theorem qkE (P:Program) (h:P.initOrder.toList=qcI):P.liftsFinal=false:=by
 unfold Program.liftsFinal Program.headLifts
 rw [h]
 kernel_rfl
theorem qkF:Tryz.pinned.checked.prog.liftsFinal=false:=qkE _ qfd
theorem qkG (P:Program) (h:P.initOrder.toList=qcI):P.make=some .cut:=by
 unfold Program.make
 rw [h]
 kernel_rfl
theorem qkH:Tryz.pinned.checked.prog.make=some .cut:=qkG _ qfd
theorem qkI:stripLifts liftWords (behindMainWord (wordsSigns qcI))=([],behindMainWord (wordsSigns qcI)):=by kernel_rfl
theorem qkJ (P:Program) (h:P.initOrder.toList=qcI) (h1:P.laysLater=false) (h2:P.bearsReflect=false) (h3:P.doorFits []=true):P.mayEnter=true:=by
 have hh:((behindMainWord (wordsSigns qcI)).head?==some "cut".toList)=true:=by kernel_rfl
 have hs:=qkI
 unfold Program.mayEnter
 rw [h]
 generalize behindMainWord (wordsSigns qcI)=L at hh hs ⊢
 cases L with
 | nil=>cases hh
 | cons c rest =>
  simp only [hs,hh,h1,h2,h3]
  simp
theorem qkK:Tryz.pinned.checked.prog.laysLater=false:=by kernel_rfl
theorem qkL:Tryz.pinned.checked.prog.bearsReflect=false:=by kernel_rfl
theorem qkM:Tryz.pinned.checked.prog.doorFits []=true:=by kernel_rfl
theorem qkN:Tryz.pinned.checked.prog.mayEnter=true:=qkJ _ qfd qkK qkL qkM
end Go.Proofs.YteagpjlgjfaclaaGreatDoor
namespace Go.Proofs.YteagpjlgjfaclaaGreatDoor
set_option maxRecDepth 100000
open Go.RowKit
variable {p p':Bool}
attribute [local go_sem] Keeps.refl Keeps.alloc Keeps.drew Keeps.drewN
theorem Mine.swap {w w':World} {lo hi hi':Nat} {v:Value} {vs:List Lv} {ls:List Lk} (h:Mine w lo hi v vs ls) {k:Nat} {x y:Lv} {l:Lk} (hx:vs[k]?=some x) (O:Own 37 2 lvc w' lo v (vs.set k y))
  (g:∀ b,v.ownBlock≠some b->x.row.ownBlock≠some b->b < w.heap.size->w'.heap[b]?=w.heap[b]?) (he:y.o=l.owner) (ho:OwnN w' lo y.row l.waits) (hh:hi <= hi')
  (hb:∀ b,y.row.ownBlock=some b->(hi <= b /\ b < hi')∨x.row.ownBlock=some b):Mine w' lo hi' v (vs.set k y) (ls.set k l):=by
 have hv:∀ b,y.row.ownBlock=some b->b < hi' /\ v.ownBlock≠some b:=by
  intro b e
  rcases hb b e with ⟨h1,h2⟩ | h1
  ·exact ⟨h2,fun e'=>by have:=h.out b e';omega⟩
  ·exact ⟨Nat.lt_of_lt_of_le (h.inn k x b hx h1).1 hh,(h.inn k x b hx h1).2⟩
 have ha:∀ (j:Nat) (z:Lv) (b:Nat),j≠k->vs[j]?=some z->y.row.ownBlock=some b->z.row.ownBlock=some b->False:=by
  intro j z b hj hz e1 e2
  rcases hb b e1 with ⟨h1,h2⟩ | h1
  ·have:=(h.inn j z b hz e2).1;omega
  ·exact hj (h.apart j k z x b hz hx e2 h1)
 refine ⟨by simp [h.len],O,fun b e=>Nat.lt_of_lt_of_le (h.out b e) hh,?_,?_,?_⟩
 ·intro i z m hz hm
  rcases qct hz with ⟨rfl,rfl⟩ | ⟨hik,hz2⟩ <;> rcases qct hm with ⟨h1,rfl⟩ | ⟨h1,hm2⟩
  ·exact ⟨he,ho⟩
  ·exact absurd rfl h1
  ·exact absurd h1 hik
  ·obtain ⟨r1,r2⟩:=h.rows i z m hz2 hm2
   exact ⟨r1,r2.same fun b e=>g b (h.inn i z b hz2 e).2 (fun e'=>hik (h.apart i k z x b hz2 hx e e')) (r2.ltb b e).2⟩
 ·intro i z b hz e
  rcases qct hz with ⟨rfl,rfl⟩ | ⟨hik,hz2⟩
  ·exact hv b e
  ·exact ⟨Nat.lt_of_lt_of_le (h.inn i z b hz2 e).1 hh,(h.inn i z b hz2 e).2⟩
 ·intro i j p q b hp hq e1 e2
  rcases qct hp with ⟨rfl,rfl⟩ | ⟨hik,hp2⟩ <;> rcases qct hq with ⟨rfl,rfl⟩ | ⟨hjk,hq2⟩
  ·rfl
  ·exact (ha j q b hjk hq2 e1 e2).elim
  ·exact (ha i p b hik hp2 e2 e1).elim
  ·exact h.apart i j p q b hp2 hq2 e1 e2
theorem Own.setTwo {w:World} {base b n cap:Nat} {vs:List Lv} (h:Own 37 2 lvc w base (.slice (Option.some ⟨b,0,none⟩) n cap) vs) {k:Nat} {x:Lv} (hx:vs[k]?=Option.some x) (y:Lv) :
  Own 37 2 lvc ((w.setCell ⟨b,k*2,none⟩ (.int .i64 y.o)).setCell ⟨b,k*2+1,none⟩ y.row) base (.slice (Option.some ⟨b,0,none⟩) n cap) (vs.set k y):=by
 have h1:=h.setAt qbj (i:=k) (j:=0) (x:=x) (y:={ x with o:=y.o }) (u := .int .i64 y.o) hx (by omega) rfl
 have hl:=qaw hx
 have h2:=h1.setAt qbj (i:=k) (j:=1) (x:={ x with o:=y.o }) (y:=y) (u:=y.row) (List.getElem?_set_self hl) (by omega) rfl
 rw [List.set_set] at h2
 exact h2
theorem qeE {P:Program} (t e:TypeId) (z:Value) (size bytes:Nat) (ht:P.underlying t=some (.slice e)) (hinfo:(P.info? e).map (fun i=>(i.zero,i.size,i.bytes))=some (some z,size,bytes))
  (n:Nat) (hbytes:bytes*n <= 281474976710656) (h63:n <= 9223372036854775807) :
  ∀ w:World,(Instr.makeSlice t (.int .i64 (n:Int)) (.int .i64 (n:Int))).run P w = .ok (.slice (some ⟨w.heap.size,0,none⟩) n n) (w.alloc (.cells (madeCells z.cells (n*size)) e)):=by
 obtain ⟨i,hi,hzz⟩:=Option.map_eq_some_iff.1 hinfo
 simp only [Prod.mk.injEq] at hzz
 obtain ⟨hz,hs,hb⟩:=hzz
 intro w
 have hb':(i.bytes:Int)*(n:Int) <= 281474976710656:=by
  have h:((i.bytes*n:Nat):Int) <= 281474976710656:=by rw [hb];omega
  rwa [Int.natCast_mul] at h
 have hr:=run_make (P:=P) w t e i z ht hi hz .i64 .i64 n n (by omega) (Int.le_refl _) hb' (by omega)
 simp only [Int.toNat_natCast,hs] at hr
 exact hr
abbrev Lv.zero:Lv:=⟨0,none,0,0⟩
theorem qlg (n:Nat):(madeCells #[.int .i64 0,.slice none 0 0] (n*2)).toList=qae lvc (List.replicate n Lv.zero):=by
 apply List.ext_getElem?
 intro j
 by_cases hj:j < n*2
 ·have hq:j / 2 < n:=by omega
  have:=qc9 qbj (List.replicate n Lv.zero) (j / 2) Lv.zero (by simp [hq]) (j % 2) (by omega)
  rw [show j / 2*2+j % 2=j from by omega] at this
  rw [this]
  simp only [madeCells,Array.getElem?_toList,Array.getElem?_map,Array.getElem?_range,hj,if_true,Option.map_some]
  rcases (show j % 2=0∨j % 2=1 by omega) with e | e <;> simp [e]
 ·rw [List.getElem?_eq_none (by simpa [madeCells] using hj),List.getElem?_eq_none]
  have:=qa7 qbj (List.replicate n Lv.zero)
  simp at this
  omega
theorem Mine.zero (w:World) (n:Nat) (hn:n <= maxLen):Mine (w.alloc (.cells (madeCells #[.int .i64 0,.slice none 0 0] (n*2)) 37)) w.heap.size (w.heap.size+1) (.slice (some ⟨w.heap.size,0,none⟩) n n) (List.replicate n Lv.zero) (List.replicate n ⟨0,[]⟩):=by
 refine ⟨by simp,?_,?_,?_,?_,?_⟩
 ·have:=World.ownsRow_lit (e:=37) (size:=2) (base:=w.heap.size) w (madeCells #[.int .i64 0,.slice none 0 0] (n*2)) n (Nat.le_refl _) hn (size_madeCells _ _)
  rw [qlg] at this
  unfold Own
  rw [List.length_replicate]
  exact this
 ·intro b hb
  simp only [Value.ownBlock,Option.some.injEq] at hb
  omega
 ·intro i x l hx hl
  have e1:=List.eq_of_mem_replicate (List.mem_of_getElem? hx)
  have e2:=List.eq_of_mem_replicate (List.mem_of_getElem? hl)
  subst e1 e2
  exact ⟨rfl,World.ownsRow_nil _ _ _ _⟩
 ·intro i x b hx hb
  have e1:=List.eq_of_mem_replicate (List.mem_of_getElem? hx)
  subst e1
  simp [Value.ownBlock] at hb
 ·intro i j x y b hx hy h1 h2
  have e1:=List.eq_of_mem_replicate (List.mem_of_getElem? hx)
  subst e1
  simp [Value.ownBlock] at h1
end Go.Proofs.YteagpjlgjfaclaaGreatDoor
namespace Go.Proofs.YteagpjlgjfaclaaGreatDoor
set_option maxRecDepth 100000
open Go.RowKit
theorem qgh (x y:Nat):Nat.gcd y (x % y)=Nat.gcd x y:=by
 rw [Nat.gcd_comm x y,Nat.gcd_rec y x,Nat.gcd_comm]
set_option maxHeartbeats 400000 in
theorem qjr (a b:Nat) (w:World) (ha:a <= 9223372036854775807) (hb:b <= 9223372036854775807) :
  Calls Tryz.prog 112 #[.int .i64 a,.int .i64 b] w fun e w'=>e = .returned (.int .i64 (Nat.gcd a b)) /\ Quiet w w':=by
 go_enter Tryz.func112,Tryz.ntmps112
 go_wp2
 go_loopw [0,1] (fun s t wr=>∃ x y:Nat,x <= 9223372036854775807 /\ y <= 9223372036854775807 /\ s = .int .i64 x /\ t = .int .i64 y /\ Hid (Nat.gcd x y=Nat.gcd a b) /\ Quiet w wr) (fun _ t _=>(intOf t).toNat)
 case atStart=>exact ⟨a,b,ha,hb,rfl,rfl,rfl,Quiet.refl _⟩
 case round =>
  obtain ⟨x,y,hx,hy,rfl,rfl,hg,hq⟩:=hrel
  by_cases h0:0 < y
  ·have h1:x % y < y:=Nat.mod_lt _ h0
   have hn:((y:Int) != 0)=true:=by rw [bne_iff_ne];omega
   go_wp2
   go_quiet (fail)
   go_wp2
   go_roundw
   case rel=>exact ⟨y,x % y,hy,by omega,rfl,rfl,(qgh x y).trans hg.out,hq.drewN _⟩
   case measure=>simp only [intOf];omega
  ·have h2:y=0:=by omega
   subst h2
   go_wp2
   go_ret
   exact ⟨by rw [<- hg.out];simp,hq⟩
set_option maxHeartbeats 400000 in
theorem qjs (a b:Nat) (w:World) (ha:a <= 9223372036854775807) (hb:b <= 9223372036854775807) :
  Calls Tryz.prog 185 #[.int .i64 a,.int .i64 b] w fun e w'=>e = .returned (.int .i64 (Nat.gcd a b)) /\ Quiet w w':=by
 go_enter Tryz.func185,Tryz.ntmps185
 go_wp2
 go_loopw [0,1] (fun s t wr=>∃ x y:Nat,x <= 9223372036854775807 /\ y <= 9223372036854775807 /\ s = .int .i64 x /\ t = .int .i64 y /\ Hid (Nat.gcd x y=Nat.gcd a b) /\ Quiet w wr) (fun _ t _=>(intOf t).toNat)
 case atStart=>exact ⟨a,b,ha,hb,rfl,rfl,rfl,Quiet.refl _⟩
 case round =>
  obtain ⟨x,y,hx,hy,rfl,rfl,hg,hq⟩:=hrel
  by_cases h0:0 < y
  ·have h1:x % y < y:=Nat.mod_lt _ h0
   have hn:((y:Int) != 0)=true:=by rw [bne_iff_ne];omega
   go_wp2
   go_quiet (fail)
   go_wp2
   go_roundw
   case rel=>exact ⟨y,x % y,hy,by omega,rfl,rfl,(qgh x y).trans hg.out,hq.drewN _⟩
   case measure=>simp only [intOf];omega
  ·have h2:y=0:=by omega
   subst h2
   go_wp2
   go_ret
   exact ⟨by rw [<- hg.out];simp,hq⟩
theorem qgi (a b:Int) (w:World) :
  Calls Tryz.prog 56 #[.int .i64 a,.int .i64 b] w fun e w'=>e = .returned (.int .i64 (max a b)) /\ w'=w:=by
 by_cases h0:b < a
 ·have Hr:Hid (max a b=a):=by show _=_;omega
  go_enter Tryz.func56,Tryz.ntmps56
  go_wp2
  go_ret
  exact ⟨by rw [Hr.out];rfl,rfl⟩
 ·have Hr:Hid (max a b=b):=by show _=_;omega
  go_enter Tryz.func56,Tryz.ntmps56
  go_wp2
  go_ret
  exact ⟨by rw [Hr.out];rfl,rfl⟩
end Go.Proofs.YteagpjlgjfaclaaGreatDoor
