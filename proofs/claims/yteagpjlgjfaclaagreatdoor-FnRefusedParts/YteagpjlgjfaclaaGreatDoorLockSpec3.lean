/-
  Locks: contracts of the model's functions that make rows.
-/
import Derived.Test.YteagpjlgjfaclaaGreatDoorLockSpec2
import Derived.Test.YteagpjlgjfaclaaGreatDoorFar
import Derived.Test.YteagpjlgjfaclaaGreatDoorFrame
namespace Go.Proofs.YteagpjlgjfaclaaGreatDoor
set_option maxRecDepth 100000
open Go.RowKit
variable {p:Bool}
attribute [local go_sem] Keeps.refl Keeps.alloc Keeps.drew Keeps.drewN
set_option maxHeartbeats 1000000 in
theorem qlv (a:Option Addr) (cap:Nat) (ls:List Lk) (no:Int) (w:World) (hl:qaj ls <= 2097152) (hs:Lks p w a ls) :
  Calls Tryz.prog 181 #[.slice a ls.length cap,.int .i64 no] w fun e w'=>∃ v,e = .returned v /\ OwnN w' w.heap.size v (qbu ls no) /\ Keeps w w':=by
 have hl0:ls.length <= 2097152:=by unfold qaj at hl;omega
 have HS:Hid (Lks p w a ls):=hs
 clear hs
 have LO:Hid (∀ w',Keeps w w'->Calls Tryz.prog 70 #[.slice a ls.length cap] w' fun e w''=>e = .returned (.bool (qax ls)) /\ Keeps w' w''):=fun w' h=>qeH a cap ls w' hl (HS.out.keeps h)
 have CH:Hid (∀ w',Keeps w w'->Calls Tryz.prog 110 #[.slice a ls.length cap,.int .i64 no] w' fun e w''=>∃ v,e = .returned (.tuple #[v,.bool (qap ls (ls.length+1) no).2]) /\ OwnN w'' w'.heap.size v (qap ls (ls.length+1) no).1 /\ Keeps w' w''):=fun w' h=>qeG a cap ls no w' hl0 (HS.out.keeps h)
 obtain ⟨n,Hn⟩:∃ n,Hid (ls.length=n):=⟨_,rfl⟩
 obtain ⟨C,HC⟩:∃ C,Hid (qap ls (n+1) no=C):=⟨_,rfl⟩
 rw [Hn.out] at LO CH ⊢
 rw [HC.out] at CH
 clear hl hl0
 cases hb:qax ls
 ·have Hr:Hid (qbu ls no=[]):=by show _=_;unfold qbu;rw [hb];rfl
  rw [hb] at LO
  go_enter Tryz.func181,Tryz.ntmps181
  go_wp2_with (go_at_call 70;refine (LO.out _ (Keeps.refl _)).mono ?_;rintro e w1 ⟨rfl,k1⟩)
  go_ret
  exact ⟨_,rfl,by rw [Hr.out];exact Own.new 3 1 ic w1 k1.size,k1.alloc _⟩
 ·have Hr:Hid (qbu ls no=C.1):=by show _=_;unfold qbu;rw [hb,Hn.out,HC.out];rfl
  rw [hb] at LO
  go_enter Tryz.func181,Tryz.ntmps181
  go_wp2_with (first
   | (go_at_call 70;refine (LO.out _ (Keeps.refl _)).mono ?_;rintro e w1 ⟨rfl,k1⟩)
   | (go_at_call 110;refine (CH.out _ k1).mono ?_;rintro e w2 ⟨v,rfl,O2,k2⟩))
  go_ret
  exact ⟨_,rfl,by rw [Hr.out];exact O2.base k1.size,k1.trans k2⟩
theorem qlw (xs ys:List Int) (x:Int):qbi (xs++ys) x=qbi xs x++qbi ys x:=by simp [qbi]
theorem qg6 {xs:List Int} {k:Nat} {y x:Int} (h:xs[k]?=some y):qbi (xs.take (k+1)) x=qbi (xs.take k) x++(if y != x then [y] else []):=by
 rw [List.take_add_one,h,qlw]
 congr 1
 cases hx:(y != x) <;> simp [qbi,hx]
theorem qlx (xs:List Int) (x:Int):(qbi xs x).length <= xs.length:=List.length_filter_le _ _
set_option maxHeartbeats 2000000 in
theorem qly (a:Option Addr) (cap:Nat) (xs:List Int) (x:Int) (w:World) (hl:xs.length <= 2097152) (hs:Ns w a xs) :
  Calls Tryz.prog 182 #[.slice a xs.length cap,.int .i64 x] w fun e w'=>∃ v,e = .returned v /\ OwnN w' w.heap.size v (qbi xs x) /\ Keeps w w':=by
 generalize hn:xs.length=n at hl
 have Hn:Hid (xs.length=n):=hn
 clear hn
 have HS:Hid (Ns w a xs):=hs
 clear hs
 go_enter Tryz.func182,Tryz.ntmps182
 go_wp2
 have kz:Hid (Keeps w (w.alloc (.cells #[] 3))):=(Keeps.refl _).alloc _
 have own0:Hid (OwnN (w.alloc (.cells #[] 3)) w.heap.size (.slice (some ⟨w.heap.size,0,none⟩) 0 0) []):=Own.new 3 1 ic w (Nat.le_refl _)
 generalize w.alloc (.cells #[] 3)=W at *
 go_loopw [5,6] (fun v i wr=>∃ (k:Nat) (ys:List Int),k <= n /\ i = .int .i64 k /\ ys.length <= k /\ Hid (OwnN wr w.heap.size v ys) /\ Keeps w wr /\ Hid (qbi (xs.take k) x=ys)) (fun _ i _=>n - (intOf i).toNat)
 case atStart=>exact ⟨0,[],Nat.zero_le _,rfl,by simp,own0,kz.out,by show _=_;simp [qbi]⟩
 case round =>
  obtain ⟨k,ys,hk,rfl,hy,own,hK,HI⟩:=hrel
  clear own0 kz
  by_cases hlt:k < n
  ·obtain ⟨y,hy1⟩:=qal (xs:=xs) (k:=k) (by rw [Hn.out];exact hlt)
   obtain ⟨b,off,rfl,r0⟩:=HS.out.at hy1
   have hlt':(k:Int) < (n:Int):=by omega
   have Hy:Hid (xs[k]?=some y):=hy1
   clear hy1
   cases hq:(y != x)
   ·go_wp2
    refine ⟨⟨k+1,ys,by omega,by go_num,by omega,own,hK,?_⟩,by simp only [intOf];omega⟩
    show _=_
    rw [qg6 Hy.out,HI.out,hq]
    simp
   ·go_wp2_with (at_builtin;(refine qbA rfl _ _ 27 rfl w 3 (.int .i64 0) 1 8 ic Tryz.underlying27 (by kernel_rfl) rfl (by decide) qaW qcH _ ys rfl wr own.out hK ((Keeps.refl _).alloc _) y _ 1 (Blk.new _ _ _) rfl ?c1 ?c2 ?_))
    case c1=>unfold maxLen;omega
    case c2=>omega
    intro v' w5 own5 k5 _
    have HO:Hid (OwnN w5 w.heap.size v' (ys++[y])):=own5
    clear own5 own
    go_wp2
    refine ⟨⟨k+1,ys++[y],by omega,by go_num,by simp;omega,HO,k5,?_⟩,by simp only [intOf];omega⟩
    show _=_
    rw [qg6 Hy.out,HI.out,hq]
    rfl
  ·have e:k=n:=by omega
   subst e
   have HR:Hid (qbi xs x=ys):=by show _=_;rw [<- HI.out,<- Hn.out,List.take_length]
   go_wp2
   go_ret
   exact ⟨_,rfl,by rw [HR.out];exact own.out,hK⟩
theorem qea {α:Type} {P:Program} (w:World) (base:Nat) (t ty e:TypeId) (z:Value) (sz bytes:Nat) (c:α->Array Value) (ht:P.underlying t=some (.slice e)) (hinfo:(P.info? e).map (fun i=>(i.zero,i.size,i.bytes))=some (some z,sz,bytes))
  (hzs:z.cells.size=sz) (hsz:0 < sz) (hc:∀ x,(c x).size=sz) (h1:∀ x,∀ u∈(c x).toList,u.oneCell'=true)
  (v:Value) (xs:List α) (hown:Own e sz c w base v xs) (hbase:base <= w.heap.size)
  (ys:List α) (b off cp:Nat) (hl:Lies sz c w (some ⟨b,off,none⟩) ys)
  (h63:xs.length+ys.length <= maxLen) (hbytes:(xs.length+ys.length)*bytes <= 140737488355328) :
  ∃ v' w',(Builtin.append_ #[t,t] ty #[v,.slice (some ⟨b,off,none⟩) ys.length cp]).run P w = .ok v' w' /\ Own e sz c w' base v' (xs++ys) /\ w.grownBy w' v.ownBlock /\ ∀ k,v'.ownBlock=some k->v.ownBlock=some k∨k=w.heap.size:=by
 obtain ⟨i,hi,hzz⟩:=Option.map_eq_some_iff.1 hinfo
 simp only [Prod.mk.injEq] at hzz
 obtain ⟨hz0,hz1,hz2⟩:=hzz
 have hnews:∀ j u,(qae c ys)[j]?=some u->w.cell? ((⟨b,off,none⟩:Addr).add j)=some u:=by
  intro j u hj
  have hjl:j < ys.length*sz:=by
   have:=qa7 hc ys
   rcases Nat.lt_or_ge j (ys.length*sz) with h | h
   ·exact h
   ·rw [List.getElem?_eq_none (by omega)] at hj;cases hj
  have hq:j / sz < ys.length:=Nat.div_lt_of_lt_mul (by rw [Nat.mul_comm];exact hjl)
  have hm:j % sz < sz:=Nat.mod_lt _ hsz
  have hjj:j / sz*sz+j % sz=j:=by rw [Nat.mul_comm];exact Nat.div_add_mod j sz
  have h2:=qc9 hc ys (j / sz) ys[j / sz] (List.getElem?_eq_getElem hq) (j % sz) hm
  rw [hjj,hj] at h2
  rcases hl with hl | ⟨b',off',e',hb',hl⟩
  ·rw [hl] at hq;simp at hq
  ·simp only [Option.some.injEq,Addr.mk.injEq] at e'
   obtain ⟨rfl,rfl,-⟩:=e'
   have h3:=hl (j / sz) ys[j / sz] (List.getElem?_eq_getElem hq) (j % sz) hm
   have ea:(⟨b,off,none⟩:Addr).add j=⟨b,off+j,none⟩:=by unfold Addr.add;by_cases h:j=0 <;> simp [h]
   rw [ea,<- hjj,<- Nat.add_assoc,h3,<- h2]
 obtain ⟨v',w',hrun,r1,r2,r3⟩:=run_append_own (P:=P) w base t ty e i z sz bytes ht hi hz0 hz1 hz2 hzs hsz v xs.length (qae c xs) hown ⟨b,off,none⟩ ys.length cp (qae c ys) (qa7 hc ys) hnews (qec h1 ys) h63 hbytes hbase
 refine ⟨v',w',hrun,by unfold Own;rw [qeI,List.length_append];exact r1,r2,fun k hk => ?_⟩
 subst hz1
 subst hz2
 have hsm:xs.length+ys.length <= 9223372036854775807:=by simp only [maxLen] at h63;omega
 have hown':=hown
 rcases hown'.2 with ⟨rfl,hx0⟩ | ⟨g,cap,cur,rfl,hbg,hg,hnc,hcm,hcs,htake⟩
 ·by_cases hm:ys.length=0
  ·have:=r3.2 ⟨rfl,hm⟩
   rw [this] at hk
   simp [Value.ownBlock] at hk
  ·have hr:=run_append_nil (P:=P) w t ty e i z ht hi hz0 ⟨b,off,none⟩ ys.length cp (qae c ys) (qa7 hc ys) hnews (by omega) (by omega) (by have hb:=hbytes;rw [hx0,Nat.zero_add] at hb;omega)
   rw [hr] at hrun
   simp only [Result.ok.injEq] at hrun
   rw [<- hrun.1] at hk
   simp [Value.ownBlock] at hk
   exact .inr hk.symm
 ·by_cases hroom:xs.length+ys.length <= cap
  ·obtain ⟨w2,hr,_,_⟩:=run_append_fits (P:=P) w base t ty e i i.size ht hi rfl g xs.length cap (qae c xs) hown ⟨b,off,none⟩ ys.length cp (qae c ys) (qa7 hc ys) hnews (qec h1 ys) hroom
   rw [hr] at hrun
   simp only [Result.ok.injEq] at hrun
   rw [<- hrun.1] at hk
   exact .inl hk
  ·have holds:∀ j u,(qae c xs)[j]?=some u->w.cell? ((⟨g,0,none⟩:Addr).add j)=some u:=World.ownsRow.cells hown (g:=g) rfl
   have hr:=run_append_grow (P:=P) w t ty e i z ht hi hz0 ⟨g,0,none⟩ xs.length cap (qae c xs) hown.1 holds ⟨b,off,none⟩ ys.length cp (qae c ys) (qa7 hc ys) hnews (by omega) (by omega) (growslice_fits (by omega) hbytes)
   rw [hr] at hrun
   simp only [Result.ok.injEq] at hrun
   rw [<- hrun.1] at hk
   simp [Value.ownBlock] at hk
   exact .inr hk.symm
theorem qbU {α:Type} {P:Program} {ops:Array Oper} {o:Oper} {a:Act} {w:World} {K:Act->World->Prop} {Q:Exit->Act->World->Prop} {E:Prop}
  (hg:o.guard=none) (s x:Operand) (t:TypeId) (hop:o.op=Op.call { callee:=Callee.builtin Builtin.append,args:=#[s,x],argTypes:=#[t,t] })
  (base:Nat) (e:TypeId) (z:Value) (sz bytes:Nat) (c:α->Array Value) (ht:P.underlying t=some (.slice e)) (hinfo:(P.info? e).map (fun i=>(i.zero,i.size,i.bytes))=some (some z,sz,bytes))
  (hzs:z.cells.size=sz) (hsz:0 < sz) (hc:∀ x,(c x).size=sz) (h1:∀ x,∀ u∈(c x).toList,u.oneCell'=true)
  (v:Value) (xs:List α) (hs:a.eval s=v) (hown:Own e sz c w base v xs) (hbase:base <= w.heap.size)
  (ys:List α) (b off cp:Nat) (hl:Lies sz c w (some ⟨b,off,none⟩) ys) (hx:a.eval x = .slice (some ⟨b,off,none⟩) ys.length cp)
  (h63:xs.length+ys.length <= maxLen) (hbytes:(xs.length+ys.length)*bytes <= 140737488355328)
  (hK:∀ v' w',Own e sz c w' base v' (xs++ys)->w.grownBy w' v.ownBlock->(∀ k,v'.ownBlock=some k->v.ownBlock=some k∨k=w.heap.size)->K (a.put o.dst v') w') :
  if Region.wanted o (yielded ops a.tmps)=true then Oper.wp P o a w K Q else E:=by
 have hw:Region.wanted o (yielded ops a.tmps)=true:=by simp [Region.wanted,hg]
 rw [if_pos hw]
 obtain ⟨v',w',hrun,r1,r2,r3⟩:=qea (P:=P) w base t o.type e z sz bytes c ht hinfo hzs hsz hc h1 v xs hown hbase ys b off cp hl h63 hbytes
 unfold Oper.wp
 simp [execOp,hop,resolve,invoke,builtin,hs,hx,hrun,Result.andThen]
 exact hK v' w' r1 r2 r3
theorem qc8 {α:Type} {P:Program} {w:World} {ops:Array Oper} {rest:List Oper} {o:Oper} {a:Act} {Q:Exit->Act->World->Prop} (hgd:o.guard=none) (s x:Operand) (t:TypeId)
  (hop:o.op = .call { callee := .builtin .append,args:=#[s,x],argTypes:=#[t,t] })
  (base:Nat) (e:TypeId) (z:Value) (sz bytes:Nat) (c:α->Array Value) (ht:P.underlying t=some (.slice e)) (hinfo:(P.info? e).map (fun i=>(i.zero,i.size,i.bytes))=some (some z,sz,bytes))
  (hzs:z.cells.size=sz) (hsz:0 < sz) (hc:∀ x,(c x).size=sz) (h1:∀ x,∀ u∈(c x).toList,u.oneCell'=true)
  (v:Value) (xs:List α) (hs:a.eval s=v) (hown:Own e sz c w base v xs) (hbase:base <= w.heap.size)
  (y:α) (b cp:Nat) (hb:Blk w b (c y)) (hx:a.eval x = .slice (some ⟨b,0,none⟩) 1 cp)
  (h63:xs.length+1 <= maxLen) (hbytes:(xs.length+1)*bytes <= 140737488355328)
  (h:∀ v' w',Own e sz c w' base v' (xs++[y])->w.grownBy w' v.ownBlock->(∀ k,v'.ownBlock=some k->v.ownBlock=some k∨k=w.heap.size)->wpList P ops Q rest (a.put o.dst v') w'):wpList P ops Q (o::rest) a w:=by
 refine wpList_plain hgd fun K hK => ?_
 have hl:Lies sz c w (some ⟨b,0,none⟩) [y]:=by
  refine .inr ⟨_,_,rfl,hb.lt,fun i x hx k hk => ?_⟩
  cases i with
  | zero=>simp at hx;subst hx;simpa using hb.cells k
  | succ i=>simp at hx
 obtain ⟨v',w',hrun,r1,r2,r3⟩:=qea (P:=P) w base t o.type e z sz bytes c ht hinfo hzs hsz hc h1 v xs hown hbase [y] b 0 cp hl h63 hbytes
 have hrun':(Builtin.append_ #[t,t] o.type #[v,.slice (some ⟨b,0,none⟩) 1 cp]).run P w = .ok v' w':=hrun
 unfold Oper.wp execOp
 simp only [hop,resolve,invoke,builtin,Sem.run_bind,Sem.run_pure,Result.andThen_ok,List.map_toArray,List.map_cons,List.map_nil,hs,hx,hrun']
 exact hK _ _ (h v' w' r1 r2 r3)
theorem qlz {α:Type} {P:Program} {ops:Array Oper} {o:Oper} {a:Act} {w:World} {K:Act->World->Prop} {Q:Exit->Act->World->Prop} {E:Prop}
  (hg:o.guard=none) (s x:Operand) (t:TypeId) (hop:o.op=Op.call { callee:=Callee.builtin Builtin.append,args:=#[s,x],argTypes:=#[t,t] })
  (base:Nat) (e:TypeId) (z:Value) (sz bytes:Nat) (c:α->Array Value) (ht:P.underlying t=some (.slice e)) (hinfo:(P.info? e).map (fun i=>(i.zero,i.size,i.bytes))=some (some z,sz,bytes))
  (v:Value) (xs:List α) (hs:a.eval s=v) (hown:Own e sz c w base v xs) (hx:a.eval x = .slice none 0 0)
  (hK:K (a.put o.dst v) w) :
  if Region.wanted o (yielded ops a.tmps)=true then Oper.wp P o a w K Q else E:=by
 have hw:Region.wanted o (yielded ops a.tmps)=true:=by simp [Region.wanted,hg]
 rw [if_pos hw]
 obtain ⟨i,hi,hzz⟩:=Option.map_eq_some_iff.1 hinfo
 have hrun:=run_append_owned_none (P:=P) w base t o.type e i sz ht hi v xs.length (qae c xs) hown
 unfold Oper.wp
 simp [execOp,hop,resolve,invoke,builtin,hs,hx,hrun,Result.andThen]
 exact hK
theorem Mine.push {w w':World} {lo hi hi':Nat} {v v':Value} {vs:List Lv} {ls:List Lk} (h:Mine w lo hi v vs ls) {y:Lv} {l:Lk} (O:Own 37 2 lvc w' lo v' (vs++[y])) (g:w.grownBy w' v.ownBlock) (he:y.o=l.owner) (ho:OwnN w lo y.row l.waits)
  (hb:∀ b,y.row.ownBlock=some b->hi <= b /\ b < hi' /\ b < w.heap.size) (hv:∀ b,v'.ownBlock=some b->v.ownBlock=some b∨(w.heap.size <= b /\ b < hi')) (hh:hi <= hi'):Mine w' lo hi' v' (vs++[y]) (ls++[l]):=by
 have hin:∀ (i:Nat) (x:Lv) (b:Nat),vs[i]?=some x->x.row.ownBlock=some b->b < w.heap.size:=fun i x b hx e=>by
  obtain ⟨m,hm⟩:=qal (xs:=ls) (k:=i) (by rw [<- h.len];exact qaw hx)
  exact ((h.rows i x m hx hm).2.ltb b e).2
 have at':∀ (i:Nat) (x:Lv),(vs++[y])[i]?=some x->(i < vs.length /\ vs[i]?=some x)∨(i=vs.length /\ x=y):=by
  intro i x hx
  rcases Nat.lt_or_ge i vs.length with hi | hi
  ·rw [List.getElem?_append_left hi] at hx;exact .inl ⟨hi,hx⟩
  ·rw [List.getElem?_append_right hi] at hx
   have:i - vs.length=0:=by have:=qaw hx;simp at this;omega
   rw [this] at hx
   simp at hx
   exact .inr ⟨by omega,hx.symm⟩
 have yv:∀ b,y.row.ownBlock=some b->v.ownBlock≠some b:=fun b e e'=>by have:=(hb b e).1;have:=h.out b e';omega
 refine ⟨by simp [h.len],O,fun b e => ?_,?_,?_,?_⟩
 ·rcases hv b e with e' | e'
  ·exact Nat.lt_of_lt_of_le (h.out b e') hh
  ·exact e'.2
 ·intro i x m hx hm
  rcases at' i x hx with ⟨hi,hx2⟩ | ⟨rfl,rfl⟩
  ·rw [List.getElem?_append_left (by rw [<- h.len];exact hi)] at hm
   obtain ⟨r1,r2⟩:=h.rows i x m hx2 hm
   exact ⟨r1,r2.same fun b e=>g.block b (r2.ltb b e).2 (fun e'=>(h.inn i x b hx2 e).2 e'.symm)⟩
  ·rw [h.len,List.getElem?_append_right (Nat.le_refl _),Nat.sub_self] at hm
   simp at hm
   subst hm
   exact ⟨he,ho.same fun b e=>g.block b (hb b e).2.2 (fun e'=>yv b e e'.symm)⟩
 ·intro i x b hx e
  rcases at' i x hx with ⟨hi,hx2⟩ | ⟨rfl,rfl⟩
  ·refine ⟨Nat.lt_of_lt_of_le (h.inn i x b hx2 e).1 hh,fun e' => ?_⟩
   rcases hv b e' with e2 | e2
   ·exact (h.inn i x b hx2 e).2 e2
   ·have:=hin i x b hx2 e;omega
  ·refine ⟨(hb b e).2.1,fun e' => ?_⟩
   rcases hv b e' with e2 | e2
   ·exact yv b e e2
   ·have:=(hb b e).2.2;omega
 ·intro i j x z b hx hz e1 e2
  rcases at' i x hx with ⟨hi,hx2⟩ | ⟨rfl,rfl⟩ <;> rcases at' j z hz with ⟨hj,hz2⟩ | ⟨rfl,rfl⟩
  ·exact h.apart i j x z b hx2 hz2 e1 e2
  ·have:=(hb b e2).1;have:=(h.inn i x b hx2 e1).1;omega
  ·have:=(hb b e1).1;have:=(h.inn j z b hz2 e2).1;omega
  ·rfl
theorem Mine.none (w:World) (lo hi:Nat) (v:Value) (O:Own 37 2 lvc w lo v []) (hv:∀ b,v.ownBlock=some b->b < hi):Mine w lo hi v [] [] :=
 ⟨rfl,O,hv,fun i x l h=>by simp at h,fun i x b h=>by simp at h,fun i j x y b h=>by simp at h⟩
end Go.Proofs.YteagpjlgjfaclaaGreatDoor
