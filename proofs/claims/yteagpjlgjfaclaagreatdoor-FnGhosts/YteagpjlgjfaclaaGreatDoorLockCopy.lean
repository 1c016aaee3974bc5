/-
  How long a drawn row is.
  Maps from numbers to numbers that the call makes, told by t
  Lists of parts of time: the law's own helpers: a copy is ma
  Two tasks are held against each other as a whole.
  Rows of locks: made anew, marked, and looked at again.
  Locks: contracts of the model's functions that make rows.
  Locks: the model's copy of them.
-/
import Derived.Test.YteagpjlgjfaclaaGreatDoorCur
import Derived.Test.YteagpjlgjfaclaaGreatDoorBase
import Derived.Maps.OwnSet
import Derived.Test.YteagpjlgjfaclaaGreatDoorSum
import Derived.Test.YteagpjlgjfaclaaGreatDoorPlain1
import Derived.Test.YteagpjlgjfaclaaGreatDoorTaskBase
import Derived.Laws.StructEq
import Derived.Test.YteagpjlgjfaclaaGreatDoorLockSpec2
namespace Go.Proofs.YteagpjlgjfaclaaGreatDoor
set_option maxRecDepth 100000
open Go.RowKit
set_option maxHeartbeats 1000000 in
theorem BW (a:Option Addr) (n cap:Nat) (few most:Int) (w:World) (hn:n <= 1048576) (h0:0 <= few) (h1:few <= most) (h2:most <= 255) :
  Calls Tryz.prog 48 #[.slice a n cap,.int .i64 few,.int .i64 most] w fun e w'=>∃ z:Int,e = .returned (.int .i64 z) /\ 0 <= z /\ z <= most /\ w'=w:=by
 have hq:(n:Int).tdiv 4=(n:Int) / 4:=Int.tdiv_eq_ediv_of_nonneg (by omega)
 obtain ⟨d,Hd⟩:∃ d,Hid ((n:Int).tdiv 4=d):=⟨_,rfl⟩
 have hd0:0 <= d:=by rw [<- Hd.out,hq];omega
 have hd1:d <= 1048576:=by rw [<- Hd.out,hq];omega
 have hd:(n:Int).tdiv 4=d:=Hd.out
 have hw:IntKind.i64.wrap (few+d)=few+d:=Go.IntWalk.i64_in _ (by omega)
 clear hq Hd
 by_cases hm:most < few+d
 ·go_enter Tryz.func48,Tryz.ntmps48
  go_wp2
  go_ret
  exact ⟨most,rfl,by omega,by omega,rfl⟩
 ·go_enter Tryz.func48,Tryz.ntmps48
  go_wp2
  go_ret
  exact ⟨few+d,rfl,by omega,by omega,rfl⟩
def eF:List (Int × Int)->Int->Option Int
 | [],_=>none
 | p::r,k=>if p.1==k then some p.2 else eF r k
def dN (es:List (Int × Int)) (k:Int):Bool:=(eF es k).isSome
def fQ (es:List (Int × Int)) (k:Int):Int:=(eF es k).getD 0
def nr (es:List (Int × Int)) (k:Int):List (Int × Int):=es.eraseP fun p=>p.1==k
theorem DX (es fs:List (Int × Int)) (k:Int):eF (es++fs) k=(eF es k).or (eF fs k):=by
 induction es with
 | nil=>rfl
 | cons p r ih =>
  simp only [List.cons_append,eF,ih]
  split <;> rfl
theorem DZ (a b k:Int):eF [(a,b)] k=if a==k then some b else none:=rfl
def bL (w:World) (b:Nat) (es:List (Int × Int)):Prop :=
 ∃ (xs:Array MapEntry) (clock:Nat),w.heap[b]?=some (.map xs clock) /\ xs.toList.map (fun e=>(e.key,e.val))=es.map fun p=>((.int .i64 p.1,.int .i64 p.2):Value × Value)
theorem bL.made (w:World):bL (w.alloc (.map #[] 0)) w.heap.size []:=⟨#[],0,(MapKept.heap_alloc w _).1,rfl⟩
theorem bL.lt {w:World} {b:Nat} {es:List (Int × Int)} (h:bL w b es):b < w.heap.size:=by
 obtain ⟨xs,c,hb,_⟩:=h
 exact (Array.getElem?_eq_some_iff.1 hb).1
theorem bL.same {w w':World} {b:Nat} {es:List (Int × Int)} (h:bL w b es) (k:w'.heap[b]?=w.heap[b]?):bL w' b es:=by
 obtain ⟨xs,c,hb,r⟩:=h
 exact ⟨xs,c,k.trans hb,r⟩
theorem bL.keeps {w w':World} {b:Nat} {es:List (Int × Int)} (h:bL w b es) (k:aa w w'):bL w' b es:=h.same (Below.block k b h.lt)
theorem uw (k:Int):∀ (xs:List MapEntry) (es:List (Int × Int)) (i:Nat),xs.map (fun e=>(e.key,e.val))=es.map (fun p=>((.int .i64 p.1,.int .i64 p.2):Value × Value)) ->
  (eF es k=none /\ Instr.findNow (.int .i64) (.int .i64 k) xs i=some none) ∨
  ∃ (j:Nat) (v:Int),eF es k=some v /\ Instr.findNow (.int .i64) (.int .i64 k) xs i=some (some (i+j,.int .i64 v)) /\ es.eraseIdx j=nr es k
 | [],[],_,_ => .inl ⟨rfl,rfl⟩
 | [],p::r,_,h=>by simp at h
 | e::xs,[],_,h=>by simp at h
 | e::xs,p::r,i,h=>by
  simp only [List.map_cons,List.cons.injEq,Prod.mk.injEq] at h
  obtain ⟨⟨h1,h2⟩,h3⟩:=h
  have hs:Instr.sameNow (.int .i64) (.int .i64 k) e.key=some (k==p.1):=by rw [h1];simp [Instr.sameNow]
  by_cases c:p.1=k
  ·refine .inr ⟨0,p.2,by simp [eF,c],?_,?_⟩
   ·simp only [Instr.findNow,hs,c,h2];simp
   ·unfold nr;rw [List.eraseP_cons_of_pos (by simpa using c)];rfl
  ·have c1:(k==p.1)=false:=by simpa using fun e=>c e.symm
   have c2:(p.1==k)=false:=by simpa using c
   rcases uw k xs r (i+1) h3 with ⟨g1,g2⟩ | ⟨j,v,g1,g2,g3⟩
   ·exact .inl ⟨by simp [eF,c2,g1],by simp [Instr.findNow,hs,c1,g2]⟩
   ·refine .inr ⟨j+1,v,by simp [eF,c2,g1],?_,?_⟩
    ·simp only [Instr.findNow,hs,c1,g2];simp;omega
    ·unfold nr at g3 ⊢;rw [List.eraseP_cons_of_neg (by simpa using c),<- g3];rfl
section
variable {P:Program} {w:World} {b:Nat} {es:List (Int × Int)} {t k e:TypeId}
theorem bL.look (h:bL w b es) (ht:P.underlying t=some (.map k e)) (hk:P.underlying k=some (.int .i64)) (hz:(zeroValue e).run P w = .ok (.int .i64 0) w) (x:Int) :
  (Instr.lookup t (.map (some b)) (.int .i64 x) true).run P w = .ok (.tuple #[.int .i64 (fQ es x),.bool (dN es x)]) w:=by
 obtain ⟨xs,clock,hb,r⟩:=h
 have ck:∀ em,(Instr.checkKey em 10000 k (.int .i64 x)).run P w = .ok () w:=fun em=>MapKept.run_checkKey hk (by simp [MapKept.IsKey]) em 9999
 rcases uw x xs.toList es 0 r with ⟨g1,g2⟩ | ⟨j,v,g1,g2,-⟩
 ·simp [Instr.lookup,run_underlying ht,MapKept.run_getObj_map hb,ck,MapKept.run_findKey hk g2,hz,Result.andThen,fQ,dN,g1]
 ·simp [Instr.lookup,run_underlying ht,MapKept.run_getObj_map hb,ck,MapKept.run_findKey hk g2,Result.andThen,fQ,dN,g1]
theorem bL.len (h:bL w b es) (ht:P.underlying t=some (.map k e)) (ty:TypeId):(Builtin.len_ #[t] ty #[.map (some b)]).run P w = .ok (.int .i64 es.length) w:=by
 obtain ⟨xs,clock,hb,r⟩:=h
 have:xs.size=es.length:=by have:=congrArg List.length r;simpa using this
 rw [<- this]
 simp [Builtin.len_,run_underlying ht,MapKept.run_getObj_map hb,goInt,Result.andThen]
theorem Il {o o':Obj} (hb:w.heap[b]?=some o):w.grownBy { w with heap:=w.heap.setIfInBounds b o' } (some b) :=
 ⟨rfl,rfl,rfl,by simp,fun i _ hi=>(MapKept.heap_set hb).2 i (fun e=>hi (by rw [e]))⟩
theorem bL.put (h:bL w b es) (ht:P.underlying t=some (.map k e)) (hk:P.underlying k=some (.int .i64)) {x:Int} (y:Int) (hx:eF es x=none) :
  ∃ w',(Instr.mapUpdate t (.map (some b)) (.int .i64 x) (.int .i64 y)).run P w = .ok () w' /\ bL w' b (es++[(x,y)]) /\ w.grownBy w' (some b):=by
 obtain ⟨xs,clock,hb,r⟩:=h
 have ck:∀ em,(Instr.checkKey em 10000 k (.int .i64 x)).run P w = .ok () w:=fun em=>MapKept.run_checkKey hk (by simp [MapKept.IsKey]) em 9999
 rcases uw x xs.toList es 0 r with ⟨g1,g2⟩ | ⟨j,v,g1,-,-⟩
 ·refine ⟨{ w with heap:=w.heap.setIfInBounds b (.map (xs.push ⟨.int .i64 x,.int .i64 y,clock⟩) (clock+1)) },?_,⟨_,_,(MapKept.heap_set hb).1,by simp [r]⟩,Il hb⟩
  simp [Instr.mapUpdate,run_underlying ht,MapKept.run_getObj_map hb,ck,MapKept.run_findKey hk g2,MapKept.run_setObj_map _ hb,Result.andThen]
 ·rw [hx] at g1;cases g1
end
section
variable {P:Program} {w:World} {ops:Array Oper} {rest:List Oper} {o:Oper} {a:Act} {Q:Exit->Act->World->Prop}
theorem nd (hg:o.guard=none) (m x:Operand) (t:TypeId) (hop:o.op=Op.lookup t m x true) (k e:TypeId) (ht:P.underlying t=some (.map k e)) (hk:P.underlying k=some (.int .i64))
  (hz:(zeroValue e).run P w = .ok (.int .i64 0) w) (b:Nat) (es:List (Int × Int)) (hm:a.eval m = .map (some b)) (h:bL w b es) (z:Int) (hx:a.eval x = .int .i64 z) (v:Int) (ok:Bool) (hv:fQ es z=v) (hok:dN es z=ok)
  (hK:wpList P ops Q rest (a.put o.dst (.tuple #[.int .i64 v,.bool ok])) w):wpList P ops Q (o::rest) a w:=by
 refine wpList_plain hg fun K' hK' => ?_
 have hrun:=h.look ht hk hz z
 rw [hv,hok] at hrun
 unfold Oper.wp
 simp [execOp,hop,hm,hx,hrun,Result.andThen]
 exact hK' _ _ hK
theorem FD (hg:o.guard=none) (m x y:Operand) (t:TypeId) (hop:o.op=Op.mapUpdate t m x y) (k e:TypeId) (ht:P.underlying t=some (.map k e)) (hk:P.underlying k=some (.int .i64))
  (b:Nat) (es:List (Int × Int)) (hm:a.eval m = .map (some b)) (h:bL w b es) (z v:Int) (hx:a.eval x = .int .i64 z) (hy:a.eval y = .int .i64 v) (hn:eF es z=none)
  (hK:∀ w',bL w' b (es++[(z,v)])->w.grownBy w' (some b)->wpList P ops Q rest (a.put o.dst undef) w'):wpList P ops Q (o::rest) a w:=by
 refine wpList_plain hg fun K' hK' => ?_
 obtain ⟨w',hrun,r1,r2⟩:=h.put ht hk v hn
 unfold Oper.wp
 simp [execOp,hop,hm,hx,hy,hrun,Result.andThen]
 exact hK' _ _ (hK w' r1 r2)
end
theorem zj (d:Nat) (w:World) (a b:ar):(Op.equalIn (d+2) 43 (tk a) (tk b)).run Tryz.prog w = .ok (fK a b) w:=by
 obtain ⟨a0,a1,a2,a3,a4,a5,a6,a7,a8,a9,zk,zl,a12,ze⟩:=a
 obtain ⟨b0,b1,b2,b3,b4,b5,b6,b7,b8,b9,b10,b11,b12,b13⟩:=b
 simp only [fK]
 rw [run_equalIn_agg _ _ _ _ _ (by kernel_rfl) (by kernel_rfl)]
 go_simp
 by_cases h0:a0=b0
 case neg=>simp only [if_neg h0,beq_eq_false_iff_ne.2 h0,Bool.false_and]
 simp only [if_pos h0,beq_iff_eq.2 h0,Bool.true_and]
 by_cases h1:a1=b1
 case neg=>simp only [if_neg h1,beq_eq_false_iff_ne.2 h1,Bool.false_and]
 simp only [if_pos h1,beq_iff_eq.2 h1,Bool.true_and]
 by_cases h2:a2=b2
 case neg=>simp only [if_neg h2,beq_eq_false_iff_ne.2 h2,Bool.false_and]
 simp only [if_pos h2,beq_iff_eq.2 h2,Bool.true_and]
 by_cases h3:a3=b3
 case neg=>simp only [if_neg h3,beq_eq_false_iff_ne.2 h3,Bool.false_and]
 simp only [if_pos h3,beq_iff_eq.2 h3,Bool.true_and]
 by_cases h4:a4=b4
 case neg=>simp only [if_neg h4,beq_eq_false_iff_ne.2 h4,Bool.false_and]
 simp only [if_pos h4,beq_iff_eq.2 h4,Bool.true_and]
 by_cases h5:a5=b5
 case neg=>simp only [if_neg h5,beq_eq_false_iff_ne.2 h5,Bool.false_and]
 simp only [if_pos h5,beq_iff_eq.2 h5,Bool.true_and]
 by_cases h6:a6=b6
 case neg=>simp only [if_neg h6,beq_eq_false_iff_ne.2 h6,Bool.false_and]
 simp only [if_pos h6,beq_iff_eq.2 h6,Bool.true_and]
 by_cases h7:a7=b7
 case neg=>simp only [if_neg h7,beq_eq_false_iff_ne.2 h7,Bool.false_and]
 simp only [if_pos h7,beq_iff_eq.2 h7,Bool.true_and]
 by_cases h8:a8=b8
 case neg=>simp only [if_neg h8,beq_eq_false_iff_ne.2 h8,Bool.false_and]
 simp only [if_pos h8,beq_iff_eq.2 h8,Bool.true_and]
 by_cases h9:a9=b9
 case neg=>simp only [if_neg h9,beq_eq_false_iff_ne.2 h9,Bool.false_and]
 simp only [if_pos h9,beq_iff_eq.2 h9,Bool.true_and]
 by_cases h10:zk=b10
 case neg=>simp only [if_neg h10,beq_eq_false_iff_ne.2 h10,Bool.false_and]
 simp only [if_pos h10,beq_iff_eq.2 h10,Bool.true_and]
 by_cases h11:zl=b11
 case neg=>simp only [if_neg h11,beq_eq_false_iff_ne.2 h11,Bool.false_and]
 simp only [if_pos h11,beq_iff_eq.2 h11,Bool.true_and]
 by_cases h12:a12=b12
 case neg=>simp only [if_neg h12,beq_eq_false_iff_ne.2 h12,Bool.false_and]
 simp only [if_pos h12,beq_iff_eq.2 h12,Bool.true_and]
 by_cases me:ze=b13
 case neg=>simp only [if_neg me,beq_eq_false_iff_ne.2 me]
 simp only [if_pos me,beq_iff_eq.2 me]
theorem GH (w:World) (a b:ar):(binOp .eql 43 (tk a) (tk b)).run Tryz.prog w = .ok (.bool (fK a b)) w:=by
 rw [run_eql_struct,zj 9998];rfl
theorem KF (w:World) (a b:ar):(binOp .neq 43 (tk a) (tk b)).run Tryz.prog w = .ok (.bool (!fK a b)) w:=by
 rw [run_neq_struct,zj 9998];rfl
variable {p p':Bool}
attribute [local go_sem] aa.refl aa.alloc aa.drew aa.drewN
theorem Mine.swap {w w':World} {lo hi hi':Nat} {v:Value} {vs:List Lv} {ls:List Lk} (h:Mine w lo hi v vs ls) {k:Nat} {x y:Lv} {l:Lk} (hx:vs[k]?=some x) (O:Own 37 2 fF w' lo v (vs.set k y))
  (g:∀ b,v.ownBlock≠some b->x.row.ownBlock≠some b->b < w.heap.size->w'.heap[b]?=w.heap[b]?) (he:y.o=l.owner) (ho:aS w' lo y.row l.waits) (hh:hi <= hi')
  (hb:∀ b,y.row.ownBlock=some b->(hi <= b /\ b < hi')∨x.row.ownBlock=some b):Mine w' lo hi' v (vs.set k y) (ls.set k l):=by
 have hv:∀ b,y.row.ownBlock=some b->b < hi' /\ v.ownBlock≠some b:=by
  intro b e
  rcases hb b e with ⟨h1,h2⟩ | h1
  ·exact ⟨h2,fun e'=>by have:=h.out b e';omega⟩
  ·exact ⟨Nat.lt_of_lt_of_le (h.fx k x b hx h1).1 hh,(h.fx k x b hx h1).2⟩
 have ha:∀ (j:Nat) (z:Lv) (b:Nat),j≠k->vs[j]?=some z->y.row.ownBlock=some b->z.row.ownBlock=some b->False:=by
  intro j z b hj hz e1 e2
  rcases hb b e1 with ⟨h1,h2⟩ | h1
  ·have:=(h.fx j z b hz e2).1;omega
  ·exact hj (h.apart j k z x b hz hx e2 h1)
 refine ⟨by simp [h.len],O,fun b e=>Nat.lt_of_lt_of_le (h.out b e) hh,?_,?_,?_⟩
 ·intro i z m hz hm
  rcases kc hz with ⟨rfl,rfl⟩ | ⟨hik,hz2⟩ <;> rcases kc hm with ⟨h1,rfl⟩ | ⟨h1,hm2⟩
  ·exact ⟨he,ho⟩
  ·exact absurd rfl h1
  ·exact absurd h1 hik
  ·obtain ⟨r1,r2⟩:=h.rows i z m hz2 hm2
   exact ⟨r1,r2.same fun b e=>g b (h.fx i z b hz2 e).2 (fun e'=>hik (h.apart i k z x b hz2 hx e e')) (r2.cr b e).2⟩
 ·intro i z b hz e
  rcases kc hz with ⟨rfl,rfl⟩ | ⟨hik,hz2⟩
  ·exact hv b e
  ·exact ⟨Nat.lt_of_lt_of_le (h.fx i z b hz2 e).1 hh,(h.fx i z b hz2 e).2⟩
 ·intro i j p q b hp hq e1 e2
  rcases kc hp with ⟨rfl,rfl⟩ | ⟨hik,hp2⟩ <;> rcases kc hq with ⟨rfl,rfl⟩ | ⟨hjk,hq2⟩
  ·rfl
  ·exact (ha j q b hjk hq2 e1 e2).elim
  ·exact (ha i p b hik hp2 e2 e1).elim
  ·exact h.apart i j p q b hp2 hq2 e1 e2
theorem Own.iI {w:World} {base b n cap:Nat} {vs:List Lv} (h:Own 37 2 fF w base (.slice (Option.some ⟨b,0,none⟩) n cap) vs) {k:Nat} {x:Lv} (hx:vs[k]?=Option.some x) (y:Lv) :
  Own 37 2 fF ((w.setCell ⟨b,k*2,none⟩ (.int .i64 y.o)).setCell ⟨b,k*2+1,none⟩ y.row) base (.slice (Option.some ⟨b,0,none⟩) n cap) (vs.set k y):=by
 have h1:=h.setAt gz (i:=k) (j:=0) (x:=x) (y:={ x with o:=y.o }) (u := .int .i64 y.o) hx (by omega) rfl
 have hl:=cZ hx
 have h2:=h1.setAt gz (i:=k) (j:=1) (x:={ x with o:=y.o }) (y:=y) (u:=y.row) (List.getElem?_set_self hl) (by omega) rfl
 rw [List.set_set] at h2
 exact h2
theorem qR {P:Program} (t e:TypeId) (z:Value) (size bytes:Nat) (ht:P.underlying t=some (.slice e)) (hinfo:(P.info? e).map (fun i=>(i.zero,i.size,i.bytes))=some (some z,size,bytes))
  (n:Nat) (hbytes:bytes*n <= 281474976710656) (h63:n <= 9223372036854775807) :
  ∀ w:World,(Instr.makeSlice t (.int .i64 (n:Int)) (.int .i64 (n:Int))).run P w = .ok (.slice (some ⟨w.heap.size,0,none⟩) n n) (w.alloc (.cells (madeCells z.cells (n*size)) e)):=by
 obtain ⟨i,hi,hzz⟩:=Option.map_eq_some_iff.1 hinfo
 simp only [Prod.mk.injEq] at hzz
 obtain ⟨hz,hs,hb⟩:=hzz
 intro w
 have hb':(i.bytes:Int)*(n:Int) <= 281474976710656:=by
  have h:((i.bytes*n:Nat):Int) <= 281474976710656:=by rw [hb];omega
  rwa [Int.natCast_mul] at h
 have hr:=run_make (P:=P) w t e i z ht hi hz .i64 .i64 n n (by omega) (Int.le_refl _) hb' (by omega)
 simp only [Int.toNat_natCast,hs] at hr
 exact hr
abbrev Lv.zero:Lv:=⟨0,none,0,0⟩
theorem Im (n:Nat):(madeCells #[.int .i64 0,.slice none 0 0] (n*2)).toList=aV fF (List.replicate n Lv.zero):=by
 apply List.ext_getElem?
 intro j
 by_cases hj:j < n*2
 ·have hq:j / 2 < n:=by omega
  have:=qc6 gz (List.replicate n Lv.zero) (j / 2) Lv.zero (by simp [hq]) (j % 2) (by omega)
  rw [show j / 2*2+j % 2=j from by omega] at this
  rw [this]
  simp only [madeCells,Array.getElem?_toList,Array.getElem?_map,Array.getElem?_range,hj,if_true,Option.map_some]
  rcases (show j % 2=0∨j % 2=1 by omega) with e | e <;> simp [e]
 ·rw [List.getElem?_eq_none (by simpa [madeCells] using hj),List.getElem?_eq_none]
  have:=fG gz (List.replicate n Lv.zero)
  simp at this
  omega
theorem Mine.zero (w:World) (n:Nat) (hn:n <= maxLen):Mine (w.alloc (.cells (madeCells #[.int .i64 0,.slice none 0 0] (n*2)) 37)) w.heap.size (w.heap.size+1) (.slice (some ⟨w.heap.size,0,none⟩) n n) (List.replicate n Lv.zero) (List.replicate n ⟨0,[]⟩):=by
 refine ⟨by simp,?_,?_,?_,?_,?_⟩
 ·have:=World.ownsRow_lit (e:=37) (size:=2) (base:=w.heap.size) w (madeCells #[.int .i64 0,.slice none 0 0] (n*2)) n (Nat.le_refl _) hn (size_madeCells _ _)
  rw [Im] at this
  unfold Own
  rw [List.length_replicate]
  exact this
 ·intro b hb
  simp only [Value.ownBlock,Option.some.injEq] at hb
  omega
 ·intro i x l hx hl
  have e1:=List.eq_of_mem_replicate (List.mem_of_getElem? hx)
  have e2:=List.eq_of_mem_replicate (List.mem_of_getElem? hl)
  subst e1 e2
  exact ⟨rfl,World.ownsRow_nil _ _ _ _⟩
 ·intro i x b hx hb
  have e1:=List.eq_of_mem_replicate (List.mem_of_getElem? hx)
  subst e1
  simp [Value.ownBlock] at hb
 ·intro i j x y b hx hy h1 h2
  have e1:=List.eq_of_mem_replicate (List.mem_of_getElem? hx)
  subst e1
  simp [Value.ownBlock] at h1
variable {p:Bool}
attribute [local go_sem] aa.refl aa.alloc aa.drew aa.drewN
set_option maxHeartbeats 1000000 in
theorem Ib (a:Option Addr) (cap:Nat) (ls:List Lk) (no:Int) (w:World) (hl:bR ls <= 2097152) (hs:dL p w a ls) :
  Calls Tryz.prog 181 #[.slice a ls.length cap,.int .i64 no] w fun e w'=>∃ v,e = .returned v /\ aS w' w.heap.size v (hM ls no) /\ aa w w':=by
 have hl0:ls.length <= 2097152:=by unfold bR at hl;omega
 have HS:Hid (dL p w a ls):=hs
 clear hs
 have LO:Hid (∀ w',aa w w'->Calls Tryz.prog 70 #[.slice a ls.length cap] w' fun e w''=>e = .returned (.bool (du ls)) /\ aa w' w''):=fun w' h=>rL a cap ls w' hl (HS.out.keeps h)
 have CH:Hid (∀ w',aa w w'->Calls Tryz.prog 110 #[.slice a ls.length cap,.int .i64 no] w' fun e w''=>∃ v,e = .returned (.tuple #[v,.bool (cB ls (ls.length+1) no).2]) /\ aS w'' w'.heap.size v (cB ls (ls.length+1) no).1 /\ aa w' w''):=fun w' h=>rQ a cap ls no w' hl0 (HS.out.keeps h)
 obtain ⟨n,Hn⟩:∃ n,Hid (ls.length=n):=⟨_,rfl⟩
 obtain ⟨C,HC⟩:∃ C,Hid (cB ls (n+1) no=C):=⟨_,rfl⟩
 rw [Hn.out] at LO CH ⊢
 rw [HC.out] at CH
 clear hl hl0
 cases hb:du ls
 ·have Hr:Hid (hM ls no=[]):=by show _=_;unfold hM;rw [hb];rfl
  rw [hb] at LO
  go_enter Tryz.func181,Tryz.ntmps181
  go_wp2_with (go_at_call 70;refine (LO.out _ (aa.refl _)).mono ?_;rintro e w1 ⟨rfl,k1⟩)
  go_ret
  exact ⟨_,rfl,by rw [Hr.out];exact Own.new 3 1 ic w1 k1.size,k1.alloc _⟩
 ·have Hr:Hid (hM ls no=C.1):=by show _=_;unfold hM;rw [hb,Hn.out,HC.out];rfl
  rw [hb] at LO
  go_enter Tryz.func181,Tryz.ntmps181
  go_wp2_with (first
   | (go_at_call 70;refine (LO.out _ (aa.refl _)).mono ?_;rintro e w1 ⟨rfl,k1⟩)
   | (go_at_call 110;refine (CH.out _ k1).mono ?_;rintro e w2 ⟨v,rfl,O2,k2⟩))
  go_ret
  exact ⟨_,rfl,by rw [Hr.out];exact O2.base k1.size,k1.trans k2⟩
theorem Io (xs ys:List Int) (x:Int):eG (xs++ys) x=eG xs x++eG ys x:=by simp [eG]
theorem zm {xs:List Int} {k:Nat} {y x:Int} (h:xs[k]?=some y):eG (xs.take (k+1)) x=eG (xs.take k) x++(if y != x then [y] else []):=by
 rw [List.take_add_one,h,Io]
 congr 1
 cases hx:(y != x) <;> simp [eG,hx]
theorem Ej (xs:List Int) (x:Int):(eG xs x).length <= xs.length:=List.length_filter_le _ _
set_option maxHeartbeats 2000000 in
theorem Ik (a:Option Addr) (cap:Nat) (xs:List Int) (x:Int) (w:World) (hl:xs.length <= 2097152) (hs:Ns w a xs) :
  Calls Tryz.prog 182 #[.slice a xs.length cap,.int .i64 x] w fun e w'=>∃ v,e = .returned v /\ aS w' w.heap.size v (eG xs x) /\ aa w w':=by
 generalize hn:xs.length=n at hl
 have Hn:Hid (xs.length=n):=hn
 clear hn
 have HS:Hid (Ns w a xs):=hs
 clear hs
 go_enter Tryz.func182,Tryz.ntmps182
 go_wp2
 have kz:Hid (aa w (w.alloc (.cells #[] 3))):=(aa.refl _).alloc _
 have dC:Hid (aS (w.alloc (.cells #[] 3)) w.heap.size (.slice (some ⟨w.heap.size,0,none⟩) 0 0) []):=Own.new 3 1 ic w (Nat.le_refl _)
 generalize w.alloc (.cells #[] 3)=W at *
 go_loopw [5,6] (fun v i wr=>∃ (k:Nat) (ys:List Int),k <= n /\ i = .int .i64 k /\ ys.length <= k /\ Hid (aS wr w.heap.size v ys) /\ aa w wr /\ Hid (eG (xs.take k) x=ys)) (fun _ i _=>n - (intOf i).toNat)
 case atStart=>exact ⟨0,[],Nat.zero_le _,rfl,by simp,dC,kz.out,by show _=_;simp [eG]⟩
 case round =>
  obtain ⟨k,ys,hk,rfl,hy,own,hK,HI⟩:=hrel
  clear dC kz
  by_cases hlt:k < n
  ·obtain ⟨y,hy1⟩:=cd (xs:=xs) (k:=k) (by rw [Hn.out];exact hlt)
   obtain ⟨b,off,rfl,r0⟩:=HS.out.at hy1
   have hlt':(k:Int) < (n:Int):=by omega
   have Hy:Hid (xs[k]?=some y):=hy1
   clear hy1
   cases hq:(y != x)
   ·go_wp2
    refine ⟨⟨k+1,ys,by omega,by go_num,by omega,own,hK,?_⟩,by simp only [intOf];omega⟩
    show _=_
    rw [zm Hy.out,HI.out,hq]
    simp
   ·go_wp2_with (at_builtin;(refine ib rfl _ _ 27 rfl w 3 (.int .i64 0) 1 8 ic Tryz.underlying27 (by kernel_rfl) rfl (by decide) fq kV _ ys rfl wr own.out hK ((aa.refl _).alloc _) y _ 1 (aq.new _ _ _) rfl ?c1 ?c2 ?_))
    case c1=>unfold maxLen;omega
    case c2=>omega
    intro v' w5 cz k5 _
    have HO:Hid (aS w5 w.heap.size v' (ys++[y])):=cz
    clear cz own
    go_wp2
    refine ⟨⟨k+1,ys++[y],by omega,by go_num,by simp;omega,HO,k5,?_⟩,by simp only [intOf];omega⟩
    show _=_
    rw [zm Hy.out,HI.out,hq]
    rfl
  ·have e:k=n:=by omega
   subst e
   have HR:Hid (eG xs x=ys):=by show _=_;rw [<- HI.out,<- Hn.out,List.take_length]
   go_wp2
   go_ret
   exact ⟨_,rfl,by rw [HR.out];exact own.out,hK⟩
theorem qS {α:Type} {P:Program} (w:World) (base:Nat) (t ty e:TypeId) (z:Value) (sz bytes:Nat) (c:α->Array Value) (ht:P.underlying t=some (.slice e)) (hinfo:(P.info? e).map (fun i=>(i.zero,i.size,i.bytes))=some (some z,sz,bytes))
  (hzs:z.cells.size=sz) (hsz:0 < sz) (hc:∀ x,(c x).size=sz) (h1:∀ x,∀ u∈(c x).toList,u.oneCell'=true)
  (v:Value) (xs:List α) (hown:Own e sz c w base v xs) (hbase:base <= w.heap.size)
  (ys:List α) (b off cp:Nat) (hl:cm sz c w (some ⟨b,off,none⟩) ys)
  (h63:xs.length+ys.length <= maxLen) (hbytes:(xs.length+ys.length)*bytes <= 140737488355328) :
  ∃ v' w',(Builtin.append_ #[t,t] ty #[v,.slice (some ⟨b,off,none⟩) ys.length cp]).run P w = .ok v' w' /\ Own e sz c w' base v' (xs++ys) /\ w.grownBy w' v.ownBlock /\ ∀ k,v'.ownBlock=some k->v.ownBlock=some k∨k=w.heap.size:=by
 obtain ⟨i,hi,hzz⟩:=Option.map_eq_some_iff.1 hinfo
 simp only [Prod.mk.injEq] at hzz
 obtain ⟨hz0,hz1,hz2⟩:=hzz
 have hnews:∀ j u,(aV c ys)[j]?=some u->w.cell? ((⟨b,off,none⟩:Addr).add j)=some u:=by
  intro j u hj
  have hjl:j < ys.length*sz:=by
   have:=fG hc ys
   rcases Nat.lt_or_ge j (ys.length*sz) with h | h
   ·exact h
   ·rw [List.getElem?_eq_none (by omega)] at hj;cases hj
  have hq:j / sz < ys.length:=Nat.div_lt_of_lt_mul (by rw [Nat.mul_comm];exact hjl)
  have hm:j % sz < sz:=Nat.mod_lt _ hsz
  have hjj:j / sz*sz+j % sz=j:=by rw [Nat.mul_comm];exact Nat.div_add_mod j sz
  have h2:=qc6 hc ys (j / sz) ys[j / sz] (List.getElem?_eq_getElem hq) (j % sz) hm
  rw [hjj,hj] at h2
  rcases hl with hl | ⟨b',off',e',hb',hl⟩
  ·rw [hl] at hq;simp at hq
  ·simp only [Option.some.injEq,Addr.mk.injEq] at e'
   obtain ⟨rfl,rfl,-⟩:=e'
   have h3:=hl (j / sz) ys[j / sz] (List.getElem?_eq_getElem hq) (j % sz) hm
   have ea:(⟨b,off,none⟩:Addr).add j=⟨b,off+j,none⟩:=by unfold Addr.add;by_cases h:j=0 <;> simp [h]
   rw [ea,<- hjj,<- Nat.add_assoc,h3,<- h2]
 obtain ⟨v',w',hrun,r1,r2,r3⟩:=run_append_own (P:=P) w base t ty e i z sz bytes ht hi hz0 hz1 hz2 hzs hsz v xs.length (aV c xs) hown ⟨b,off,none⟩ ys.length cp (aV c ys) (fG hc ys) hnews (od h1 ys) h63 hbytes hbase
 refine ⟨v',w',hrun,by unfold Own;rw [oc,List.length_append];exact r1,r2,fun k hk => ?_⟩
 subst hz1
 subst hz2
 have hsm:xs.length+ys.length <= 9223372036854775807:=by simp only [maxLen] at h63;omega
 have hown':=hown
 rcases hown'.2 with ⟨rfl,hx0⟩ | ⟨g,cap,cur,rfl,hbg,hg,hnc,hcm,hcs,htake⟩
 ·by_cases hm:ys.length=0
  ·have:=r3.2 ⟨rfl,hm⟩
   rw [this] at hk
   simp [Value.ownBlock] at hk
  ·have hr:=run_append_nil (P:=P) w t ty e i z ht hi hz0 ⟨b,off,none⟩ ys.length cp (aV c ys) (fG hc ys) hnews (by omega) (by omega) (by have hb:=hbytes;rw [hx0,Nat.zero_add] at hb;omega)
   rw [hr] at hrun
   simp only [Result.ok.injEq] at hrun
   rw [<- hrun.1] at hk
   simp [Value.ownBlock] at hk
   exact .inr hk.symm
 ·by_cases hroom:xs.length+ys.length <= cap
  ·obtain ⟨w2,hr,_,_⟩:=run_append_fits (P:=P) w base t ty e i i.size ht hi rfl g xs.length cap (aV c xs) hown ⟨b,off,none⟩ ys.length cp (aV c ys) (fG hc ys) hnews (od h1 ys) hroom
   rw [hr] at hrun
   simp only [Result.ok.injEq] at hrun
   rw [<- hrun.1] at hk
   exact .inl hk
  ·have holds:∀ j u,(aV c xs)[j]?=some u->w.cell? ((⟨g,0,none⟩:Addr).add j)=some u:=World.ownsRow.cells hown (g:=g) rfl
   have hr:=run_append_grow (P:=P) w t ty e i z ht hi hz0 ⟨g,0,none⟩ xs.length cap (aV c xs) hown.1 holds ⟨b,off,none⟩ ys.length cp (aV c ys) (fG hc ys) hnews (by omega) (by omega) (growslice_fits (by omega) hbytes)
   rw [hr] at hrun
   simp only [Result.ok.injEq] at hrun
   rw [<- hrun.1] at hk
   simp [Value.ownBlock] at hk
   exact .inr hk.symm
theorem mr {α:Type} {P:Program} {ops:Array Oper} {o:Oper} {a:Act} {w:World} {K:Act->World->Prop} {Q:Exit->Act->World->Prop} {E:Prop}
  (hg:o.guard=none) (s x:Operand) (t:TypeId) (hop:o.op=Op.call { callee:=Callee.builtin Builtin.append,args:=#[s,x],argTypes:=#[t,t] })
  (base:Nat) (e:TypeId) (z:Value) (sz bytes:Nat) (c:α->Array Value) (ht:P.underlying t=some (.slice e)) (hinfo:(P.info? e).map (fun i=>(i.zero,i.size,i.bytes))=some (some z,sz,bytes))
  (hzs:z.cells.size=sz) (hsz:0 < sz) (hc:∀ x,(c x).size=sz) (h1:∀ x,∀ u∈(c x).toList,u.oneCell'=true)
  (v:Value) (xs:List α) (hs:a.eval s=v) (hown:Own e sz c w base v xs) (hbase:base <= w.heap.size)
  (ys:List α) (b off cp:Nat) (hl:cm sz c w (some ⟨b,off,none⟩) ys) (hx:a.eval x = .slice (some ⟨b,off,none⟩) ys.length cp)
  (h63:xs.length+ys.length <= maxLen) (hbytes:(xs.length+ys.length)*bytes <= 140737488355328)
  (hK:∀ v' w',Own e sz c w' base v' (xs++ys)->w.grownBy w' v.ownBlock->(∀ k,v'.ownBlock=some k->v.ownBlock=some k∨k=w.heap.size)->K (a.put o.dst v') w') :
  if Region.wanted o (yielded ops a.tmps)=true then Oper.wp P o a w K Q else E:=by
 have hw:Region.wanted o (yielded ops a.tmps)=true:=by simp [Region.wanted,hg]
 rw [if_pos hw]
 obtain ⟨v',w',hrun,r1,r2,r3⟩:=qS (P:=P) w base t o.type e z sz bytes c ht hinfo hzs hsz hc h1 v xs hown hbase ys b off cp hl h63 hbytes
 unfold Oper.wp
 simp [execOp,hop,resolve,invoke,builtin,hs,hx,hrun,Result.andThen]
 exact hK v' w' r1 r2 r3
theorem qc5 {α:Type} {P:Program} {w:World} {ops:Array Oper} {rest:List Oper} {o:Oper} {a:Act} {Q:Exit->Act->World->Prop} (hgd:o.guard=none) (s x:Operand) (t:TypeId)
  (hop:o.op = .call { callee := .builtin .append,args:=#[s,x],argTypes:=#[t,t] })
  (base:Nat) (e:TypeId) (z:Value) (sz bytes:Nat) (c:α->Array Value) (ht:P.underlying t=some (.slice e)) (hinfo:(P.info? e).map (fun i=>(i.zero,i.size,i.bytes))=some (some z,sz,bytes))
  (hzs:z.cells.size=sz) (hsz:0 < sz) (hc:∀ x,(c x).size=sz) (h1:∀ x,∀ u∈(c x).toList,u.oneCell'=true)
  (v:Value) (xs:List α) (hs:a.eval s=v) (hown:Own e sz c w base v xs) (hbase:base <= w.heap.size)
  (y:α) (b cp:Nat) (hb:aq w b (c y)) (hx:a.eval x = .slice (some ⟨b,0,none⟩) 1 cp)
  (h63:xs.length+1 <= maxLen) (hbytes:(xs.length+1)*bytes <= 140737488355328)
  (h:∀ v' w',Own e sz c w' base v' (xs++[y])->w.grownBy w' v.ownBlock->(∀ k,v'.ownBlock=some k->v.ownBlock=some k∨k=w.heap.size)->wpList P ops Q rest (a.put o.dst v') w'):wpList P ops Q (o::rest) a w:=by
 refine wpList_plain hgd fun K hK => ?_
 have hl:cm sz c w (some ⟨b,0,none⟩) [y]:=by
  refine .inr ⟨_,_,rfl,hb.lt,fun i x hx k hk => ?_⟩
  cases i with
  | zero=>simp at hx;subst hx;simpa using hb.cells k
  | succ i=>simp at hx
 obtain ⟨v',w',hrun,r1,r2,r3⟩:=qS (P:=P) w base t o.type e z sz bytes c ht hinfo hzs hsz hc h1 v xs hown hbase [y] b 0 cp hl h63 hbytes
 have hrun':(Builtin.append_ #[t,t] o.type #[v,.slice (some ⟨b,0,none⟩) 1 cp]).run P w = .ok v' w':=hrun
 unfold Oper.wp execOp
 simp only [hop,resolve,invoke,builtin,Sem.run_bind,Sem.run_pure,Result.andThen_ok,List.map_toArray,List.map_cons,List.map_nil,hs,hx,hrun']
 exact hK _ _ (h v' w' r1 r2 r3)
theorem Ip {α:Type} {P:Program} {ops:Array Oper} {o:Oper} {a:Act} {w:World} {K:Act->World->Prop} {Q:Exit->Act->World->Prop} {E:Prop}
  (hg:o.guard=none) (s x:Operand) (t:TypeId) (hop:o.op=Op.call { callee:=Callee.builtin Builtin.append,args:=#[s,x],argTypes:=#[t,t] })
  (base:Nat) (e:TypeId) (z:Value) (sz bytes:Nat) (c:α->Array Value) (ht:P.underlying t=some (.slice e)) (hinfo:(P.info? e).map (fun i=>(i.zero,i.size,i.bytes))=some (some z,sz,bytes))
  (v:Value) (xs:List α) (hs:a.eval s=v) (hown:Own e sz c w base v xs) (hx:a.eval x = .slice none 0 0)
  (hK:K (a.put o.dst v) w) :
  if Region.wanted o (yielded ops a.tmps)=true then Oper.wp P o a w K Q else E:=by
 have hw:Region.wanted o (yielded ops a.tmps)=true:=by simp [Region.wanted,hg]
 rw [if_pos hw]
 obtain ⟨i,hi,hzz⟩:=Option.map_eq_some_iff.1 hinfo
 have hrun:=run_append_owned_none (P:=P) w base t o.type e i sz ht hi v xs.length (aV c xs) hown
 unfold Oper.wp
 simp [execOp,hop,resolve,invoke,builtin,hs,hx,hrun,Result.andThen]
 exact hK
theorem Mine.push {w w':World} {lo hi hi':Nat} {v v':Value} {vs:List Lv} {ls:List Lk} (h:Mine w lo hi v vs ls) {y:Lv} {l:Lk} (O:Own 37 2 fF w' lo v' (vs++[y])) (g:w.grownBy w' v.ownBlock) (he:y.o=l.owner) (ho:aS w lo y.row l.waits)
  (hb:∀ b,y.row.ownBlock=some b->hi <= b /\ b < hi' /\ b < w.heap.size) (hv:∀ b,v'.ownBlock=some b->v.ownBlock=some b∨(w.heap.size <= b /\ b < hi')) (hh:hi <= hi'):Mine w' lo hi' v' (vs++[y]) (ls++[l]):=by
 have hin:∀ (i:Nat) (x:Lv) (b:Nat),vs[i]?=some x->x.row.ownBlock=some b->b < w.heap.size:=fun i x b hx e=>by
  obtain ⟨m,hm⟩:=cd (xs:=ls) (k:=i) (by rw [<- h.len];exact cZ hx)
  exact ((h.rows i x m hx hm).2.cr b e).2
 have at':∀ (i:Nat) (x:Lv),(vs++[y])[i]?=some x->(i < vs.length /\ vs[i]?=some x)∨(i=vs.length /\ x=y):=by
  intro i x hx
  rcases Nat.lt_or_ge i vs.length with hi | hi
  ·rw [List.getElem?_append_left hi] at hx;exact .inl ⟨hi,hx⟩
  ·rw [List.getElem?_append_right hi] at hx
   have:i - vs.length=0:=by have:=cZ hx;simp at this;omega
   rw [this] at hx
   simp at hx
   exact .inr ⟨by omega,hx.symm⟩
 have yv:∀ b,y.row.ownBlock=some b->v.ownBlock≠some b:=fun b e e'=>by have:=(hb b e).1;have:=h.out b e';omega
 refine ⟨by simp [h.len],O,fun b e => ?_,?_,?_,?_⟩
 ·rcases hv b e with e' | e'
  ·exact Nat.lt_of_lt_of_le (h.out b e') hh
  ·exact e'.2
 ·intro i x m hx hm
  rcases at' i x hx with ⟨hi,hx2⟩ | ⟨rfl,rfl⟩
  ·rw [List.getElem?_append_left (by rw [<- h.len];exact hi)] at hm
   obtain ⟨r1,r2⟩:=h.rows i x m hx2 hm
   exact ⟨r1,r2.same fun b e=>g.block b (r2.cr b e).2 (fun e'=>(h.fx i x b hx2 e).2 e'.symm)⟩
  ·rw [h.len,List.getElem?_append_right (Nat.le_refl _),Nat.sub_self] at hm
   simp at hm
   subst hm
   exact ⟨he,ho.same fun b e=>g.block b (hb b e).2.2 (fun e'=>yv b e e'.symm)⟩
 ·intro i x b hx e
  rcases at' i x hx with ⟨hi,hx2⟩ | ⟨rfl,rfl⟩
  ·refine ⟨Nat.lt_of_lt_of_le (h.fx i x b hx2 e).1 hh,fun e' => ?_⟩
   rcases hv b e' with e2 | e2
   ·exact (h.fx i x b hx2 e).2 e2
   ·have:=hin i x b hx2 e;omega
  ·refine ⟨(hb b e).2.1,fun e' => ?_⟩
   rcases hv b e' with e2 | e2
   ·exact yv b e e2
   ·have:=(hb b e).2.2;omega
 ·intro i j x z b hx hz e1 e2
  rcases at' i x hx with ⟨hi,hx2⟩ | ⟨rfl,rfl⟩ <;> rcases at' j z hz with ⟨hj,hz2⟩ | ⟨rfl,rfl⟩
  ·exact h.apart i j x z b hx2 hz2 e1 e2
  ·have:=(hb b e2).1;have:=(h.fx i x b hx2 e1).1;omega
  ·have:=(hb b e1).1;have:=(h.fx j z b hz2 e2).1;omega
  ·rfl
theorem Mine.none (w:World) (lo hi:Nat) (v:Value) (O:Own 37 2 fF w lo v []) (hv:∀ b,v.ownBlock=some b->b < hi):Mine w lo hi v [] [] :=
 ⟨rfl,O,hv,fun i x l h=>by simp at h,fun i x b h=>by simp at h,fun i j x y b h=>by simp at h⟩
section
attribute [local go_sem] aa.refl aa.alloc aa.drew aa.drewN
theorem nS {α:Type} {sz:Nat} {c:α->Array Value} {w:World} {b:Nat} {y:α} (hb:aq w b (c y)):cm sz c w (some ⟨b,0,none⟩) [y]:=by
 refine .inr ⟨_,_,rfl,hb.lt,fun i x hx k hk => ?_⟩
 cases i with
 | zero=>simp at hx;subst hx;simpa using hb.cells k
 | succ i=>simp at hx
set_option maxHeartbeats 4000000 in
theorem uk (a:Option Addr) (cap:Nat) (ls:List Lk) (w:World) (hl:bR ls <= 2097152) (hs:dL true w a ls) :
  Calls Tryz.prog 90 #[.slice a ls.length cap] w fun e w'=>∃ v vs,e = .returned v /\ Mine w' w.heap.size w'.heap.size v vs ls /\ aa w w':=by
 have HL:Hid (bR ls <= 2097152):=hl
 have hl0:ls.length <= 2097152:=by unfold bR at hl;omega
 clear hl
 have HS:Hid (dL true w a ls):=hs
 clear hs
 generalize hn:ls.length=n at hl0
 have Hn:Hid (ls.length=n):=hn
 clear hn
 go_enter Tryz.func90,Tryz.ntmps90
 go_wp2
 have kz:Hid (aa w (w.alloc (.cells #[] 37))):=(aa.refl _).alloc _
 have dC:Hid (Mine (w.alloc (.cells #[] 37)) w.heap.size (w.alloc (.cells #[] 37)).heap.size (.slice (some ⟨w.heap.size,0,none⟩) 0 0) [] []):=Mine.none _ _ _ _ (Own.new 37 2 fF w (Nat.le_refl _)) (fun b e=>by simp [Value.ownBlock] at e;simp;omega)
 generalize w.alloc (.cells #[] 37)=W at *
 go_loopw [3,4] (fun v i wr=>∃ (k:Nat) (vs:List Lv),k <= n /\ i = .int .i64 k /\ Hid (Mine wr w.heap.size wr.heap.size v vs (ls.take k)) /\ aa w wr) (fun _ i _=>n - (intOf i).toNat)
 case atStart=>exact ⟨0,[],Nat.zero_le _,rfl,by show Mine _ _ _ _ _ _;rw [List.take_zero];exact dC.out,kz.out⟩
 case round =>
  obtain ⟨k,vs,hk,rfl,M,hK⟩:=hrel
  clear dC kz
  by_cases hlt:k < n
  ·obtain ⟨l,hl1⟩:=cd (xs:=ls) (k:=k) (by rw [Hn.out];exact hlt)
   obtain ⟨b,off,a',cap',rfl,r0,r1,hle,hns,hpl⟩:=HS.out.xv hl1
   have hlt':(k:Int) < (n:Int):=by omega
   have Hl:Hid (ls[k]?=some l):=hl1
   have N1:Hid (Ns w a' l.waits):=hns
   have hw1:Hid (l.waits.length <= 2097152):=by show _ <= _;have:=lh hl1;have:=HL.out;unfold bR at this;omega
   have hvl:Hid (vs.length <= 2097152):=by show _ <= _;rw [M.out.len];simp;omega
   obtain ⟨av,cv,ev,-,-⟩:=M.out.gT
   obtain ⟨nv,Iq⟩:∃ nv,Hid ((ls.take k).length=nv):=⟨_,rfl⟩
   rw [Iq.out] at ev
   subst ev
   clear hl1 hle hns
   have pl:=hpl rfl
   clear hpl
   obtain ⟨m,Hm⟩:∃ m:Nat,Hid (l.waits.length=m):=⟨_,rfl⟩
   rw [Hm.out] at r1 pl
   rcases pl with ⟨rfl,rfl,rfl⟩ | ⟨b2,jq,rfl,hb2⟩
   ·have Ir:Hid (l.waits=[]):=List.eq_nil_of_length_eq_zero Hm.out
    go_wp2_with fail
    go_region_law (first
     | (refine Ip rfl (.tmp 18) (.tmp 23) 27 rfl wr.heap.size 3 (.int .i64 0) 1 8 ic Tryz.underlying27 (by kernel_rfl) (.slice (some ⟨wr.heap.size,0,none⟩) 0 0) [] (by simp [Act.eval]) ((Own.new 3 1 ic wr (Nat.le_refl _)).keeps (aa.refl _).drew) (by simp [Act.eval]) ?_)
     | (refine mr rfl (.tmp 12) (.tmp 26) 25 rfl w.heap.size 37 (.agg #[.int .i64 0,.slice none 0 0]) 2 32 fF Tryz.underlying25 (by kernel_rfl) rfl (by decide) gz xu (.slice av nv cv) vs (by simp [Act.eval]) (M.out.own.keeps (((aa.refl wr).alloc _).alloc _).drew) (by have:=hK.size;simp;omega) [⟨l.owner,some ⟨wr.heap.size,0,none⟩,0,0⟩] _ 0 1 (nS ((aq.new _ _ _).keeps (aa.refl _).drew)) (by simp [Act.eval]) (by have:=hvl.out;simp [maxLen];omega) (by have:=hvl.out;simp;omega) ?_;intro v2 w2 o2 g2 f2))
    all_goals
     have O2:Hid (Own 37 2 fF w2 w.heap.size v2 (vs++[⟨l.owner,some ⟨wr.heap.size,0,none⟩,0,0⟩])):=o2
     have G2:Hid (((wr.alloc (.cells #[] 3)).alloc (.cells #[.int .i64 l.owner,.slice (some ⟨wr.heap.size,0,none⟩) 0 0] 37)).drew.grownBy w2 (Value.slice av nv cv).ownBlock):=g2
     clear o2 g2
     go_wp2
     refine ⟨⟨k+1,vs++[⟨l.owner,some ⟨wr.heap.size,0,none⟩,0,0⟩],by omega,by go_num,?_,?_⟩,by simp only [intOf];omega⟩
     ·show Mine _ _ _ _ _ _
      rw [List.take_add_one,Hl.out]
      have sz:=G2.out.size
      simp only [World.size_drew,World.size_alloc] at sz
      refine (M.out.keeps (((aa.refl wr).alloc _).alloc _).drew).push O2.out G2.out rfl (by rw [Ir.out];exact ((Own.new 3 1 ic wr hK.size).alloc _).keeps (aa.refl _).drew) (fun q hq => ?_) (fun q hq => ?_) (by omega)
      ·simp [Value.ownBlock] at hq
       simp only [World.size_drew,World.size_alloc]
       omega
      ·have h1:=O2.out.cr q hq
       rcases f2 q hq with h3 | h3
       ·exact .inl h3
       ·exact .inr ⟨by omega,h1.2⟩
     ·refine aa.grown (((hK.alloc _).alloc _).drew) G2.out fun q hq => ?_
      exact (M.out.own.cr q hq).1
   ·go_wp2_with fail
    go_region_law (first
     | (refine mr rfl (.tmp 18) (.tmp 23) 27 rfl wr.heap.size 3 (.int .i64 0) 1 8 ic Tryz.underlying27 (by kernel_rfl) rfl (by decide) fq kV (.slice (some ⟨wr.heap.size,0,none⟩) 0 0) [] (by simp [Act.eval]) ((Own.new 3 1 ic wr (Nat.le_refl _)).keeps (aa.refl _).drew) (by simp) l.waits b2 jq cap' (N1.out.keeps ((hK.alloc _).drew)).lies (by rw [Hm.out];simp [Act.eval]) (by have:=hw1.out;unfold maxLen;simp;omega) (by have:=hw1.out;simp;omega) ?_;intro v1 w1 o1 g1 f1;obtain ⟨a1,c1,e1,-,-,-⟩:=aS.ns (xs:=[]++l.waits) o1;rw [List.nil_append,Hm.out] at e1;subst e1;have KV:Hid (aa wr w1):=((aa.refl wr).alloc _).drew.grown g1 (by intro q hq;simp [Value.ownBlock] at hq;omega);have OV:Hid (Own 37 2 fF w1 w.heap.size (.slice av nv cv) vs):=M.out.own.keeps KV.out;have kk:aa w w1:=hK.trans KV.out)
     | (refine mr rfl (.tmp 12) (.tmp 26) 25 rfl w.heap.size 37 (.agg #[.int .i64 0,.slice none 0 0]) 2 32 fF Tryz.underlying25 (by kernel_rfl) rfl (by decide) gz xu (.slice av nv cv) vs (by simp [Act.eval]) (OV.out.alloc _) (by have:=kk.size;simp;omega) [⟨l.owner,a1,m,c1⟩] _ 0 1 (nS (aq.new _ _ _)) (by simp [Act.eval]) (by have:=hvl.out;simp [maxLen];omega) (by have:=hvl.out;simp;omega) ?_;intro v2 w2 o2 g2 f2))
    all_goals
     have O1:Hid (aS w1 wr.heap.size (.slice a1 m c1) l.waits):=o1
     have O2:Hid (Own 37 2 fF w2 w.heap.size v2 (vs++[⟨l.owner,a1,m,c1⟩])):=o2
     have G2:Hid ((w1.alloc (.cells #[.int .i64 l.owner,.slice a1 m c1] 37)).grownBy w2 (Value.slice av nv cv).ownBlock):=g2
     clear o1 o2 g1 g2
     go_wp2
     refine ⟨⟨k+1,vs++[⟨l.owner,a1,m,c1⟩],by omega,by go_num,?_,?_⟩,by simp only [intOf];omega⟩
     ·show Mine _ _ _ _ _ _
      rw [List.take_add_one,Hl.out]
      refine ((M.out.keeps KV.out).keeps ((aa.refl w1).alloc _)).push O2.out G2.out rfl (Own.alloc (Own.base O1.out hK.size) _) (fun q hq => ?_) (fun q hq => ?_) (Nat.le_trans KV.out.size (Nat.le_trans (by simp) G2.out.size))
      ·have h1:=O1.out.cr q hq
       have h2:=G2.out.size
       simp only [World.size_alloc] at h2 ⊢
       omega
      ·have h1:=O2.out.cr q hq
       rcases f2 q hq with h3 | h3
       ·exact .inl h3
       ·exact .inr ⟨by omega,h1.2⟩
     ·refine aa.grown ((hK.trans KV.out).alloc _) G2.out fun q hq => ?_
      exact (M.out.own.cr q hq).1
  ·have e:k=n:=by omega
   subst e
   go_wp2
   go_ret
   refine ⟨_,vs,rfl,?_,hK⟩
   have:=M.out
   rw [<- Hn.out,List.take_length] at this
   exact this
end
end Go.Proofs.YteagpjlgjfaclaaGreatDoor
