/-
  slices.Delete of one task: the row of one's own is one shor
  The program's calls: what is taken back where a call fails.
  Calls: a system of one's own in a variable, and a cell for
-/
import Derived.Test.YteagpjlgjfaclaaGreatDoorCur
import Derived.Test.YteagpjlgjfaclaaGreatDoorTaskPut
import Derived.Test.YteagpjlgjfaclaaGreatDoorSysCopy
import Derived.Deep.RegionLaw
import Derived.Lib.SliceRun
import Derived.Test.YteagpjlgjfaclaaGreatDoorImplTasksOk
import Derived.Test.YteagpjlgjfaclaaGreatDoorImplCopy
import Derived.Defers
import Derived.Test.YteagpjlgjfaclaaGreatDoorImplLockA
import Derived.Test.YteagpjlgjfaclaaGreatDoorFairList
import Derived.Test.YteagpjlgjfaclaaGreatDoorCallSpec
import Derived.Test.YteagpjlgjfaclaaGreatDoorSumSpec
import Derived.Test.YteagpjlgjfaclaaGreatDoorLockSpec2
namespace Go.Proofs.YteagpjlgjfaclaaGreatDoor
set_option maxRecDepth 100000
open Go.RowKit
section
attribute [local go_sem] aa.refl aa.alloc aa.drew aa.drewN
theorem r8 (b:Nat):∀ (vs:List Value) (o:Nat) (w:World),w.setCells b o vs=putC w b o vs
 | [],_,_=>rfl
 | _::r,o,_=>r8 b r (o+1) _
theorem JG {P:Program} (w:World) (t e ty:TypeId) (z:Value) (C:Array Value) (hC:z.cells=C) (ht:P.underlying t=some (.slice e)) (hv:∀ w,(zeroValue e).run P w = .ok z w) (h1:∀ u∈C.toList,u.oneCell'=true) (b o c:Nat)
  (hc:∀ j,j < C.size->(w.cell? ⟨b,o+j,none⟩).isSome=true) (hf:∀ j,j < C.size->w.frozen? ⟨b,o+j,none⟩=false) :
  (Builtin.clear_ #[t] ty #[.slice (some ⟨b,o,none⟩) 1 c]).run P w = .ok (.tuple #[]) (putC w b o C.toList):=by
 subst hC
 have hzc:(Builtin.zeroCells z.cells 1).toList=z.cells.toList:=by
  unfold Builtin.zeroCells
  apply List.ext_getElem
  ·simp
  ·intro i h1 h2
   have hi:i < z.cells.size:=by simpa using h2
   simp [Nat.mod_eq_of_lt hi,getElem!_pos z.cells i hi]
 have hst:=run_storeCells_cells (P:=P) b o z.cells.toList 0 w (by simpa using hc) (by simpa using hf) h1
 simp only [Nat.add_zero] at hst
 simp [Builtin.clear_,run_underlying ht,hv,hzc,hst,r8]
theorem JH {cur:Array Value} {xs:List ar} {k n cap:Nat} (hn:xs.length=n) (hk:k < n) (hc:n <= cap) (hs:cur.size=cap*14) (ht:cur.toList.take (n*14)=aV tc xs) (z:List Value) (hz:z.length=14) :
  (bQ (bQ cur (k*14) (aV tc (xs.drop (k+1)))) ((n - 1)*14) z).toList.take ((n - 1)*14)=aV tc (xs.eraseIdx k):=by
 have hd:(aV tc (xs.drop (k+1))).length=(n - 1 - k)*14:=by rw [fG cF,List.length_drop,hn];omega
 have hkl:(aV tc (xs.take k)).length=k*14:=by rw [fG cF,List.length_take,hn,Nat.min_eq_left (by omega)]
 have he:aV tc (xs.eraseIdx k)=aV tc (xs.take k)++aV tc (xs.drop (k+1)):=by rw [List.eraseIdx_eq_take_drop_succ,oc]
 have hx:aV tc xs=aV tc (xs.take k)++aV tc (xs.drop k):=by rw [<- oc,List.take_append_drop]
 apply List.ext_getElem?
 intro i
 rw [List.getElem?_take,he,List.getElem?_append,hkl]
 by_cases hi:i < (n - 1)*14
 ·rw [if_pos hi,Array.getElem?_toList,pF _ _ _ _ (by rw [qp,hs,hz];omega),if_neg (by omega),pF _ _ _ _ (by rw [hs,hd];omega),hd]
  by_cases h1:i < k*14
  ·rw [if_pos h1,if_neg (by omega)]
   have h2:(cur.toList.take (n*14))[i]?=(aV tc xs)[i]?:=by rw [ht]
   rw [List.getElem?_take,if_pos (by omega),Array.getElem?_toList,hx,List.getElem?_append_left (by rw [hkl];exact h1)] at h2
   exact h2
  ·rw [if_neg h1,if_pos (by omega)]
 ·rw [if_neg hi,if_neg (by omega),List.getElem?_eq_none (by rw [hd];omega)]
set_option linter.unusedSimpArgs false in
set_option maxHeartbeats 4000000 in
theorem Ft {w:World} {lo tb tn ag:Nat} {xs:List ar} (O:Own 43 14 tc w lo (.slice (some ⟨tb,0,none⟩) tn ag) xs) {k:Nat} (hk:k < tn) (hm:tn <= 1048576) :
  Calls Tryz.prog 168 #[.slice (some ⟨tb,0,none⟩) tn ag,.int .i64 k,.int .i64 ((k:Int)+1)] w fun e w'=>e = .returned (.slice (some ⟨tb,0,none⟩) (tn - 1) ag) /\ Own 43 14 tc w' lo (.slice (some ⟨tb,0,none⟩) (tn - 1) ag) (xs.eraseIdx k) /\ w.grownBy w' (some tb):=by
 obtain ⟨hl,⟨e,-⟩ | ⟨g,cap,cur,e,hb,hg,hc,hcm,hs,ht⟩⟩:=O
 ·cases e
 obtain ⟨e1,e2,e3⟩:tb=g /\ tn=xs.length /\ ag=cap:=by simpa using e
 subst e1 e3
 have Hn:Hid (xs.length=tn):=e2.symm
 clear e e2
 rw [Hn.out] at hc ht
 have R0:Row w tb 43 cur:=hg
 obtain ⟨news,hZ⟩:∃ L,Hid (L=aV tc (xs.drop (k+1))):=⟨_,rfl⟩
 have hlen:Hid (news.length=(tn - (k+1))*14):=by show _=_;rw [hZ.out,fG cF,List.length_drop,Hn.out]
 have hget:Hid (∀ j u,news[j]?=some u->cur[(k+1)*14+j]?=some u):=fun j u hu=>by
  have hj:j < news.length:=(List.getElem?_eq_some_iff.1 hu).1
  rw [hlen.out] at hj
  have h2:(cur.toList.take (tn*14))[(k+1)*14+j]?=(aV tc xs)[(k+1)*14+j]?:=by rw [ht]
  rw [List.getElem?_take,if_pos (by omega),Array.getElem?_toList] at h2
  rw [h2]
  have hx:aV tc xs=aV tc (xs.take (k+1))++aV tc (xs.drop (k+1)):=by rw [<- oc,List.take_append_drop]
  have hkl:(aV tc (xs.take (k+1))).length=(k+1)*14:=by rw [fG cF,List.length_take,Hn.out,Nat.min_eq_left (by omega)]
  rw [hx,List.getElem?_append_right (by rw [hkl];omega),hkl,Nat.add_sub_cancel_left,<- hZ.out]
  exact hu
 have s2:Hid (∀ u∈news,u.oneCell'=true):=by rw [hZ.out];exact od gV _
 have R1:Row w.drew tb 43 cur:=R0
 obtain ⟨A,hA,hsrc⟩:∃ A:Addr,(if ag=k+1 then some (⟨tb,0,none⟩:Addr) else some ⟨tb,(k+1)*14,none⟩)=some A /\ Hid (∀ t u,news[t]?=some u->w.drew.cell? (A.add t)=some u):=by
  by_cases h:ag=k+1
  ·refine ⟨⟨tb,0,none⟩,by simp [h],fun t u hu => ?_⟩
   have h0:news.length=0:=by rw [hlen.out];omega
   rw [List.length_eq_zero_iff.1 h0] at hu
   simp at hu
  ·refine ⟨⟨tb,(k+1)*14,none⟩,by simp [h],fun t u hu => ?_⟩
   rw [Addr.add_lit,R1.cell]
   exact hget.out t u hu
 have hk1:(k:Int) < (tn:Int):=by omega
 have hk2:(0:Int) <= (k:Int)+1:=by omega
 have hk3:(k:Int)+1 <= (tn:Int):=by omega
 have hic:k <= ag:=by omega
 have hjc:k+1 <= ag:=by omega
 have s3:Hid (∀ j,j < news.length->(w.drew.cell? ⟨tb,0+k*14+j,none⟩).isSome=true /\ w.drew.frozen? ⟨tb,0+k*14+j,none⟩=false):=fun j hj=>by
  rw [hlen.out] at hj
  refine ⟨?_,R1.frozen _⟩
  rw [R1.cell,Array.getElem?_eq_getElem (by rw [hs];omega)]
  rfl
 obtain ⟨i0,hi0,hz0⟩:∃ i,Tryz.prog.info? 43=some i /\ i.size=14:=by
  have h:(Tryz.prog.info? 43).map (·.size)=some 14:=by kernel_rfl
  cases e:Tryz.prog.info? 43 with
  | none=>rw [e] at h;cases h
  | some i=>rw [e] at h;exact ⟨i,rfl,by simpa using h⟩
 have JI:Hid (Tryz.prog.info? 43=some i0):=hi0
 have JJ:Hid (i0.size=14):=hz0
 obtain ⟨W1,HW1⟩:∃ W1,Hid (W1=w.drew.setCells tb (0+k*14) news):=⟨_,rfl⟩
 have R2:Row W1 tb 43 (bQ cur (k*14) news):=by rw [HW1.out,r8,Nat.zero_add];exact R1.putC news (k*14)
 have hzc:(Value.agg (tc ar.zero)).cells=tc ar.zero:=by kernel_rfl
 have hzv:∀ w,(zeroValue 43).run Tryz.prog w = .ok (.agg (tc ar.zero)) w:=fun w=>Tryz.zeroValue43 w
 have e1:tn - (k+(tn - (k+1)))=1:=by omega
 have e2:k+(tn - (k+1))=tn - 1:=by omega
 obtain ⟨W2,HW2⟩:∃ W2,Hid (W2=putC W1 tb ((tn - 1)*14) (tc ar.zero).toList):=⟨_,rfl⟩
 have tQ:Hid (∀ ty,(Builtin.clear_ #[24] ty #[.slice (some ⟨tb,(k+(tn - (k+1)))*14,none⟩) (tn - (k+(tn - (k+1)))) (ag - (k+(tn - (k+1))))]).run Tryz.prog W1 = .ok (.tuple #[]) W2):=fun ty=>by
  rw [HW2.out,e1,e2]
  refine JG W1 24 43 ty (.agg (tc ar.zero)) (tc ar.zero) hzc Tryz.underlying24 hzv (gV ar.zero) tb _ _ (fun j hj => ?_) (fun j _=>R2.frozen _)
  rw [cF] at hj
  rw [R2.cell,Array.getElem?_eq_getElem (by rw [qp,hs];omega)]
  rfl
 have HX:Hid (∃ C:Array Value,Row W2 tb 43 C /\ C.size=ag*14 /\ C.toList.take ((tn - 1)*14)=aV tc (xs.eraseIdx k)):=⟨bQ (bQ cur (k*14) news) ((tn - 1)*14) (tc ar.zero).toList,by rw [HW2.out];exact R2.putC _ _,by rw [qp,qp,hs],by rw [hZ.out];exact JH Hn.out hk hc hs ht _ rfl⟩
 have HT:Hid (aB (fun q=>q=tb) w W2):=by
  rw [HW2.out,HW1.out,r8]
  exact aB.putC (P:=fun q=>q=tb) rfl _ _ (aB.putC (P:=fun q=>q=tb) rfl _ _ (aB.of (aa.refl w).drew))
 clear HW2 hZ hzc hzv hi0 hz0 e1 e2 R0 R1 R2 hl hg ht hs hget
 go_enter Tryz.func168,Tryz.ntmps168
 go_wp2_with fail
 go_region_law (refine step_append_room rfl (.tmp 22) (.tmp 25) 24 rfl 43 i0 14 Tryz.underlying24 JI.out JJ.out tb 0 k ag (by simp [Act.eval,Act.put]) A (tn - (k+1)) (ag - (k+1)) news (by simp [Act.eval,Act.put]) hlen.out hsrc.out s2.out (by omega) s3.out ?_;rw [<- HW1.out])
 have hcl:=tQ.out
 go_wp2
 go_ret
 obtain ⟨C,JK,hC2,JL⟩:=HX.out
 have e2:k+(tn - (k+1))=tn - 1:=by omega
 have e3:(xs.eraseIdx k).length=tn - 1:=by rw [List.length_eraseIdx_of_lt (by rw [Hn.out];exact hk),Hn.out]
 refine ⟨by rw [<- e2];rfl,⟨by rw [fG cF],.inr ⟨tb,ag,C,by rw [e3],hb,JK,by omega,hcm,hC2,by rw [e3];exact JL⟩⟩,HT.out.os,HT.out.tape,HT.out.output,HT.out.size,fun q hq hne=>HT.out.block q hq fun e=>hne (by rw [e])⟩
theorem l7 {P:Nat->Prop} {w w':World} {b:Nat} {C:Array Value} (t:aB P w w') (hb:aq w b C) (hn:¬ P b):aq w' b C:=by
 have e:=t.block b hb.lt hn
 exact ⟨Nat.lt_of_lt_of_le hb.lt t.size,fun k=>(World.cell?_of_block (w:=w) e).trans (hb.cells k),fun k=>(World.frozen?_of_block (w:=w) e).trans (hb.aO k)⟩
theorem rF {P:Program} {c:Code} {K:Act->World->Prop} {Q:Exit->Act->World->Prop} {a:Act} {w:World} (h:Code.wp P c (Exit.then K (fun _ _ _=>False)) a w):Code.wp P c (Exit.then K Q) a w :=
 Code.wp_mono (fun e a w hq=>by cases e <;> first | exact hq | exact hq.elim) h
def eM (ob rb:Nat) (C D:Array Value) (w:World):Prop:=aq w ob C /\ aq w rb D
theorem ER (rb sb ob:Nat) (w:World) (hr:aq w rb #[.nilIface]) :
  CallsD Tryz.prog 78 #[.pointer (some ⟨rb,0,none⟩),.pointer (some ⟨sb,0,none⟩),.pointer (some ⟨ob,0,none⟩)] .returning w fun e u' w'=>u' = .returning /\ (e = .returned (.tuple #[]) /\ w'=w):=by
 obtain ⟨_,z1,z2⟩:=hr
 go_enter_d Tryz.func78,Tryz.ntmps78
 go_wp2
 go_end0
 exact ⟨rfl,rfl⟩
def JM (s:Sy) (ob:Nat) (w:World) (e:Ending) (w':World):Prop:=∃ v vs,e = .returned (.tuple #[]) /\ ay w' w.heap.size v vs s /\ aq w' ob (ae s v) /\ ab ob w w'
set_option linter.unusedSimpArgs false in
theorem ES (rb sb ob:Nat) (u:TypeId) (pv:Value) (s1:Sy) (v1:Sv) (v:Sv) (s:Sy) (w:World) (hr:aq w rb #[.iface u pv]) (hs:aq w sb (ae s v)) (ho:aq w ob (ae s1 v1)) (h:aA w v s) (hsz:bE s <= 1048576) :
  CallsD Tryz.prog 78 #[.pointer (some ⟨rb,0,none⟩),.pointer (some ⟨sb,0,none⟩),.pointer (some ⟨ob,0,none⟩)] .returning w fun e u' w'=>u' = .returning /\ JM s ob w e w':=by
 have cC:=xZ v s w h hsz
 have z1:=hr.cells
 have z3:=hs.cells
 dsimp only [ae] at z3
 clear hr hs h
 go_enter_d Tryz.func78,Tryz.ntmps78
 go_upto_region 1 with fail
 go_wp2_with (go_at_call 77;refine cC.mono ?_;rintro e w2 ⟨v',vs',rfl,o2,k2,-⟩;have B2:=ho.keeps k2;obtain ⟨_,z5,z6⟩:=B2;dsimp only [ae] at z5)
 have lt:=ho.lt
 have D:=(ho.keeps k2).putC (ae s v').toList rfl
 have O:ay (putC w2 ob 0 (ae s v').toList) w.heap.size v' vs' s:=ay.aT (c:=ob) (fun i hi=>by have:=(o2.aG hi).1;omega) _ _ o2
 have K:ab ob w (putC w2 ob 0 (ae s v').toList):=ab.gK _ _ _ (.of k2)
 change bodyPost _ _ _ _ _ (putC w2 ob 0 (ae s v').toList)
 generalize putC w2 ob 0 (ae s v').toList=Q at D O K ⊢
 go_end0
 exact ⟨v',vs',rfl,O,D,K⟩
end
theorem aN.ak {w0 w:World} {lo ob:Nat} {v0 v:Sv} {bX vs:List Lv} {s:Sy} {w1:World} (h:aN w0 lo v0 bX w ob v vs s) (k:aa w w1) {x:Rw} {vs':List Lv} {ls:List Lk} (L:Mine w1 w.heap.size w1.heap.size x.val vs' ls) :
  aN w0 lo v0 bX (w1.setCell ⟨ob,3,none⟩ x.val) ob { v with l:=x } vs' { s with ak:=ls }:=by
 have h1:=h.keeps k
 have eS:=h.var.box.lt
 have hlo:lo <= w.heap.size:=Nat.le_trans h.var.fu (Nat.le_of_lt eS)
 have f:∀ b,nQ x.val vs' b->w.heap.size <= b:=fun b hb=>(L.aG hb).1
 have S2:ay w1 lo { v with l:=x } vs' { s with ak:=ls }:=h.var.own.bQ (fun b hb _=>Below.block k b hb) x ls (L.widen hlo (Nat.le_refl _)) fun b hb => .inr (f b hb)
 have eO:∀ i,¬ aX { v with l:=x } vs' i ob:=by
  intro i hi
  match i,hi with
  | 0,hi=>exact h.var.far 0 hi
  | 1,hi=>have:=f ob hi;omega
  | 2,hi=>exact h.var.far 2 hi
  | 3,hi=>exact h.var.far 3 hi
  | 4,hi=>exact h.var.far 4 hi
 have O3:ay (w1.setCell ⟨ob,3,none⟩ x.val) lo { v with l:=x } vs' { s with ak:=ls }:=S2.far eO _
 refine ⟨⟨h1.var.box.set 3 (by simp) x.val,O3,h.var.fu,eO⟩,h1.goes.step O3 (aB.putC (.inr h.new) [x.val] 3 (aB.refl _ _)) fun i b hb => ?_,h.new⟩
 match i,hb with
 | 0,hb=>exact .inl ⟨0,hb⟩
 | 1,hb=>exact .inr (Nat.le_trans h.goes.turn.size (f b hb))
 | 2,hb=>exact .inl ⟨2,hb⟩
 | 3,hb=>exact .inl ⟨3,hb⟩
 | 4,hb=>exact .inl ⟨4,hb⟩
structure aQ (w0:World) (lo:Nat) (v0:Sv) (bX:List Lv) (w:World) (ob rb:Nat) (v:Sv) (vs:List Lv) (s:Sy):Prop where
 g:aN w0 lo v0 bX w ob v vs s
 r:aq w rb zc
 far:∀ i,¬ aX v vs i rb
 ne:rb≠ob
 new:w0.heap.size <= rb
section
variable {w0 w:World} {lo ob rb:Nat} {v0 v:Sv} {bX vs:List Lv} {s:Sy}
theorem aQ.keeps {w':World} (h:aQ w0 lo v0 bX w ob rb v vs s) (k:aa w w'):aQ w0 lo v0 bX w' ob rb v vs s:=⟨h.g.keeps k,h.r.keeps k,h.far,h.ne,h.new⟩
theorem aQ.ak {w1:World} (h:aQ w0 lo v0 bX w ob rb v vs s) (k:aa w w1) {x:Rw} {vs':List Lv} {ls:List Lk} (L:Mine w1 w.heap.size w1.heap.size x.val vs' ls) :
  aQ w0 lo v0 bX (w1.setCell ⟨ob,3,none⟩ x.val) ob rb { v with l:=x } vs' { s with ak:=ls }:=by
 have hl:=h.r.lt
 refine ⟨h.g.ak k L,(h.r.keeps k).far h.ne.symm _,?_,h.ne,h.new⟩
 intro i hi
 match i,hi with
 | 0,hi=>exact h.far 0 hi
 | 1,hi=>have:=(L.aG hi).1;omega
 | 2,hi=>exact h.far 2 hi
 | 3,hi=>exact h.far 3 hi
 | 4,hi=>exact h.far 4 hi
theorem aQ.tasks {w1:World} (h:aQ w0 lo v0 bX w ob rb v vs s) (k:aa w w1) {x:Rw} {xs:List ar} (O:Own 43 14 tc w1 w.heap.size x.val xs) :
  aQ w0 lo v0 bX (w1.setCell ⟨ob,2,none⟩ x.val) ob rb { v with t:=x } vs { s with tasks:=xs }:=by
 have hl:=h.r.lt
 have eS:=h.g.var.box.lt
 have hlo:lo <= w.heap.size:=Nat.le_trans h.g.var.fu (Nat.le_of_lt eS)
 have f:∀ q,x.val.ownBlock=some q->w.heap.size <= q:=fun q hq=>(O.cr q hq).1
 have S2:ay w1 lo { v with t:=x } vs { s with tasks:=xs }:=h.g.var.own.lg k.size (fun b hb _=>Below.block k b hb) x xs (O.base hlo) fun b hb => .inr (f b hb)
 have eO:∀ c,c < w.heap.size->(∀ i,¬ aX v vs i c)->∀ i,¬ aX { v with t:=x } vs i c:=by
  intro c hc hf i hi
  match i,hi with
  | 0,hi=>have:=f c hi;omega
  | 1,hi=>exact hf 1 hi
  | 2,hi=>exact hf 2 hi
  | 3,hi=>exact hf 3 hi
  | 4,hi=>exact hf 4 hi
 have fo:=eO ob eS h.g.var.far
 have O3:ay (w1.setCell ⟨ob,2,none⟩ x.val) lo { v with t:=x } vs { s with tasks:=xs }:=S2.far fo _
 refine ⟨⟨⟨(h.g.var.box.keeps k).set 2 (by simp) x.val,O3,h.g.var.fu,fo⟩,(h.g.keeps k).goes.step O3 (aB.putC (.inr h.g.new) [x.val] 2 (aB.refl _ _)) fun i b hb => ?_,h.g.new⟩,(h.r.keeps k).far h.ne.symm _,eO rb hl h.far,h.ne,h.new⟩
 match i,hb with
 | 0,hb=>exact .inr (Nat.le_trans h.g.goes.turn.size (f b hb))
 | 1,hb=>exact .inl ⟨1,hb⟩
 | 2,hb=>exact .inl ⟨2,hb⟩
 | 3,hb=>exact .inl ⟨3,hb⟩
 | 4,hb=>exact .inl ⟨4,hb⟩
theorem aQ.af {w1 w2:World} (h:aQ w0 lo v0 bX w ob rb v vs s) (k:aa w w1) {x:Rw} {xs:List Gh} (O:Own 87 4 cP w2 lo x.val xs) (g:w1.grownBy w2 v.g.val.ownBlock) (f:∀ q,x.val.ownBlock=some q->v.g.val.ownBlock=some q∨w1.heap.size <= q) :
  aQ w0 lo v0 bX (w2.setCell ⟨ob,4,none⟩ x.val) ob rb { v with g:=x } vs { s with af:=xs }:=by
 have hl:=(h.r.keeps k).lt
 refine ⟨h.g.af k O g f,((h.r.keeps k).grown g (fun q e e2=>h.far 2 (by rw [<- e2];exact e))).far h.ne.symm _,?_,h.ne,h.new⟩
 intro i hi
 match i,hi with
 | 0,hi=>exact h.far 0 hi
 | 1,hi=>exact h.far 1 hi
 | 2,hi =>
  rcases f rb hi with h2 | h2
  ·exact h.far 2 h2
  ·omega
 | 3,hi=>exact h.far 3 hi
 | 4,hi=>exact h.far 4 hi
theorem aQ.task (h:aQ w0 lo v0 bX w ob rb v vs s) {tb:Nat} (ha:v.t.a=some ⟨tb,0,none⟩) {k:Nat} (hk:k < s.tasks.length) (x:ar):aQ w0 lo v0 bX (putC w tb (k*14) (tc x).toList) ob rb v vs { s with tasks:=s.tasks.set k x }:=by
 have ho:aX v vs 0 tb:=by show v.t.val.ownBlock=some tb;rw [Rw.val,ha];rfl
 have hne:tb≠rb:=fun e=>h.far 0 (by rw [<- e];exact ho)
 exact ⟨h.g.task ha hk x,aq.aT hne _ _ h.r,h.far,h.ne,h.new⟩
theorem aQ.num (h:aQ w0 lo v0 bX w ob rb v vs s) (now az seq missed:Int) {k:Nat} {x:Value} (e:(ae s v).setIfInBounds k x=ae { s with now:=now,az:=az,seq:=seq,missed:=missed } v) (hk:k < 9):aQ w0 lo v0 bX (w.setCell ⟨ob,k,none⟩ x) ob rb v vs { s with now:=now,az:=az,seq:=seq,missed:=missed } :=
 ⟨h.g.num now az seq missed e hk,h.r.far h.ne.symm _,h.far,h.ne,h.new⟩
theorem aQ.fin (h:aQ w0 lo v0 bX w ob rb v vs s):aq (putC w rb 0 (ae s v).toList) rb (ae s v) /\ Goes w0 lo v0 bX (putC w rb 0 (ae s v).toList) v vs s :=
 ⟨h.r.putC (ae s v).toList rfl,(h.g.elsewhere h.far h.ne h.new (ae s v).toList 0).goes⟩
end
abbrev cO (w:World) (v:Sv) (s:Sy) (c:Cl):World:=((w.alloc (.cells (ae s v) 30)).alloc (.cells (cc c) 32)).alloc (.cells zc 30)
abbrev lO (w:World) (v:Sv) (s:Sy):World:=(w.alloc (.cells (ae s v) 30)).alloc (.cells zc 30)
theorem et {w:World} {lo:Nat} {v:Sv} {vs:List Lv} {s:Sy} (h:ay w lo v vs s) (hl:lo <= w.heap.size) (c:Cl) :
  aQ w lo v vs (cO w v s c) w.heap.size (w.heap.size+2) v vs s /\ aq (cO w v s c) (w.heap.size+1) (cc c) /\ aa w (cO w v s c):=by
 refine ⟨⟨(aN.start h hl).keeps (((aa.refl _).alloc _).alloc _),?_,fun i hi=>by have:=(h.aG hi).2;omega,by omega,by omega⟩,?_,(((aa.refl w).alloc _).alloc _).alloc _⟩
 ·have:=aq.new ((w.alloc (.cells (ae s v) 30)).alloc (.cells (cc c) 32)) zc 30
  simpa using this
 ·have:=(aq.new (w.alloc (.cells (ae s v) 30)) (cc c) 32).alloc (.cells zc 30)
  simpa using this
theorem sB {w:World} {lo:Nat} {v:Sv} {vs:List Lv} {s:Sy} (h:ay w lo v vs s) (hl:lo <= w.heap.size) :
  aQ w lo v vs (lO w v s) w.heap.size (w.heap.size+1) v vs s /\ aa w (lO w v s):=by
 refine ⟨⟨(aN.start h hl).keeps ((aa.refl _).alloc _),?_,fun i hi=>by have:=(h.aG hi).2;omega,by omega,by omega⟩,((aa.refl w).alloc _).alloc _⟩
 have:=aq.new (w.alloc (.cells (ae s v) 30)) zc 30
 simpa using this
def eQ (w:World) (lo:Nat) (v:Sv) (vs:List Lv) (n:Int) (s0:Sy) (e:Ending) (w':World):Prop:=∃ s' v' vs',e = .returned (.tuple #[.agg (ae s' v'),.int .i64 n]) /\ (n=0->s'=s0) /\ Goes w lo v vs w' v' vs' s'
theorem eQ.of {w:World} {lo:Nat} {v:Sv} {vs:List Lv} {n m:Int} {s0 s':Sy} {w':World} {v':Sv} {vs':List Lv} (hm:n=m) (hs:m=0->s'=s0) (g:Goes w lo v vs w' v' vs' s'):eQ w lo v vs n s0 (.returned (.tuple #[.agg (ae s' v'),.int .i64 m])) w' :=
 ⟨s',v',vs',by rw [hm],fun h=>hs (by rw [<- hm];exact h),g⟩
theorem aQ.ret {P:Program} {fn:Func} {a:Act} {w0 w:World} {lo ob rb:Nat} {v0 v:Sv} {bX vs:List Lv} {s s0:Sy} {n m:Int} (h:aQ w0 lo v0 bX w ob rb v vs s) (hn:n=m) (hs:m=0->s=s0) (hd:a.defers=[])
  (hr:∀ Q:World,(∀ k,Q.cell? ⟨rb,k,none⟩=(ae s v)[k]?)->(results fn a.tmps).run P Q = .ok (.tuple #[.agg (ae s v),.int .i64 m]) Q):bodyPost P fn (eQ w0 lo v0 bX n s0) .ret a (putC w rb 0 (ae s v).toList):=by
 obtain ⟨D,GZ⟩:=h.fin
 exact bodyPost_ret (hr _ D.cells) hd (eQ.of hn hs GZ)
theorem On.eK {w w':World} {a:Option Addr} {m cap:Nat} {ls:List Lk} (h:On w a m cap ls) (x:Int) {z:Int} (hz:dS ls x=z) (k:aa w w'):Calls Tryz.prog 84 #[.slice a m cap,.int .i64 x] w' fun e w''=>e = .returned (.int .i64 z) /\ aa w' w'':=by
 have h':=h.keeps k
 have:=rM a cap ls x w' h'.small h'.gT
 rw [h'.len,hz] at this
 exact this
theorem On.gU {w w':World} {a:Option Addr} {m cap:Nat} {ls:List Lk} (h:On w a m cap ls) (x:Int) {z:Bool} (hz:gO ls x=z) (k:aa w w'):Calls Tryz.prog 148 #[.slice a m cap,.int .i64 x] w' fun e w''=>e = .returned (.bool z) /\ aa w' w'':=by
 have h':=h.keeps k
 have:=Ix a cap ls x w' h'.small h'.gT
 rw [h'.len,hz] at this
 exact this
theorem CN {ls:List Lk} {i:Nat} {l:Lk} (h:ls[i]?=some l):lD ls i=l.waits:=by simp [lD,h]
theorem cx.five {s:Sy} (h:cx s):s.ak.length=5:=by
 have h2:=h.ak
 unfold gQ at h2
 simp only [Bool.and_eq_true,beq_iff_eq] at h2
 exact h2.1
end Go.Proofs.YteagpjlgjfaclaaGreatDoor
