/-
  Fair shares: contracts of the model's functions.
  Rows of numbers: the laws' own helpers over them.
  Fair shares: a contract of the model's function.
  What a heap's walk needs of every kind: loops of two rounds
  A scope whose labels are jumped to a few times.
  A list of bytes that comes in as an argument: what its read
  Rows of locks: each has its own row of those that wait.
  Rows of locks: the laws' own helpers over them.
  Locks: contracts of the model's functions that only read.
  Locks: contracts of the model's chains, and of what is righ
  The same as Late, where operations that look at no memory n
  Two tasks are held against each other as a whole.
  Rows of locks: made anew, marked, and looked at again.
  Sums of parts without loss: the plain arithmetic. No Go in
  copy of elements of whatever size into a row that is known
  Locks: contracts of the model's functions that make rows.
-/
import Derived.Test.YteagpjlgjfaclaaGreatDoorCur
import Derived.Test.YteagpjlgjfaclaaGreatDoorTaskSpec
import Derived.Test.YteagpjlgjfaclaaGreatDoorLate
import Derived.Deep.RegionLaw
import Derived.BigRegion
import Derived.WalkMore
import Derived.Deep.RegionHeld3
import Derived.Test.YteagpjlgjfaclaaGreatDoorTaskBase
import Derived.Laws.StructEq
import Derived.Test.YteagpjlgjfaclaaGreatDoorRows
import Derived.Laws.CopyOwn
namespace Go.Proofs.YteagpjlgjfaclaaGreatDoor
set_option maxRecDepth 100000
open Go.RowKit
attribute [local go_sem] aa.refl aa.alloc aa.drew aa.drewN
theorem mO (a b:Int) (w:World) :
  Calls Tryz.prog 56 #[.int .i64 a,.int .i64 b] w fun e w'=>e = .returned (.int .i64 (max a b)) /\ w'=w:=by
 by_cases h:a > b
 ·have Hr:Hid (max a b=a):=by show _=_;omega
  go_enter Tryz.func56,Tryz.ntmps56
  go_wp2
  go_ret
  exact ⟨by rw [Hr.out];rfl,rfl⟩
 ·have Hr:Hid (max a b=b):=by show _=_;omega
  have hd:decide (a > b)=false:=by simpa using h
  go_enter Tryz.func56,Tryz.ntmps56
  go_wp2
  go_ret
  exact ⟨by rw [Hr.out];rfl,rfl⟩
theorem mP (t:ag) (w:World) :
  Calls Tryz.prog 184 #[tk t] w fun e w'=>e = .returned (.bool (dY t)) /\ aa w w':=by
 go_enter Tryz.func184,Tryz.ntmps184
 go_wp2_with fail
 refine (lW t _).mono ?_
 rintro e w1 ⟨rfl,k1⟩
 have B1:=(ai.new w (tc t) 43).keeps k1
 have K1:aa w w1:=((aa.refl w).alloc _).trans k1
 obtain ⟨_,b1,b2⟩:=B1
 clear k1
 cases hb:aY t
 ·have Hr:Hid (dY t=false):=by show _=_;simp [dY,hb]
  go_wp2
  go_ret
  exact ⟨by rw [Hr.out];rfl,K1⟩
 ·have Hr:Hid (dY t=(t.cls==3)):=by show _=_;simp [dY,hb]
  go_wp2
  go_ret
  exact ⟨by rw [Hr.out];rfl,K1⟩
set_option maxHeartbeats 2000000 in
theorem ME (a b:ag) (w:World) :
  Calls Tryz.prog 209 #[tk a,tk b] w fun e w'=>e = .returned (.bool (fO a b)) /\ aa w w':=by
 go_enter Tryz.func209,Tryz.ntmps209
 go_wp2_with fail
 have kW:aa w ((w.alloc (.cells (tc a) 43)).alloc (.cells (tc b) 43)):=((aa.refl w).alloc _).alloc _
 have r1:∀ w',aa ((w.alloc (.cells (tc a) 43)).alloc (.cells (tc b) 43)) w'->∀ k,w'.cell? ⟨w.heap.size,k,none⟩=(tc a)[k]?:=fun w' h=>(((ai.new w (tc a) 43).alloc _).keeps h).cells
 have r2:∀ w',aa ((w.alloc (.cells (tc a) 43)).alloc (.cells (tc b) 43)) w'->∀ k,w'.cell? ⟨w.heap.size+1,k,none⟩=(tc b)[k]?:=fun w' h=>by
  have:=(ai.new (w.alloc (.cells (tc a) 43)) (tc b) 43).keeps h
  simp only [World.size_alloc] at this
  exact this.cells
 generalize (w.alloc (.cells (tc a) 43)).alloc (.cells (tc b) 43)=W at *
 refine (mP a _).mono ?_
 rintro e w1 ⟨rfl,k1⟩
 cases ha:dY a
 ·have Hr:Hid (fO a b=false):=by show _=_;simp [fO,ha]
  go_wp2
  go_ret
  exact ⟨by rw [Hr.out];rfl,kW.trans k1⟩
 ·go_wp2_with fail
  refine (mP b _).mono ?_
  rintro e w2 ⟨rfl,k2⟩
  have K2:=k1.trans k2
  cases hb:dY b
  ·have Hr:Hid (fO a b=false):=by show _=_;simp [fO,hb]
   go_wp2
   go_ret
   exact ⟨by rw [Hr.out];rfl,kW.trans K2⟩
  ·cases h1:decide (a.v < b.v)
   ·cases h2:(a.v==b.v)
    ·have Hr:Hid (fO a b=false):=by show _=_;simp only [fO,h1,h2,Bool.false_and,Bool.or_false,Bool.and_false]
     go_wp2
     go_ret
     exact ⟨by rw [Hr.out];rfl,kW.trans K2⟩
    ·have Hr:Hid (fO a b=decide (a.no < b.no)):=by show _=_;simp only [fO,ha,hb,h1,h2,Bool.true_and,Bool.false_or]
     go_wp2
     go_ret
     exact ⟨by rw [Hr.out];rfl,kW.trans K2⟩
   ·have Hr:Hid (fO a b=true):=by show _=_;simp only [fO,ha,hb,h1,Bool.true_or,Bool.and_true]
    go_wp2
    go_ret
    exact ⟨by rw [Hr.out];rfl,kW.trans K2⟩
set_option maxHeartbeats 2000000 in
theorem tV (t:ag) (x:Int) (w:World) :
  Calls Tryz.prog 214 #[tk t,.int .i64 x] w fun e w'=>e = .returned (tk (lh t x)) /\ aa w w':=by
 cases hb:aF x 0 100000000
 ·have Hn:Hid (lh t x=t):=by show _=_;simp [lh,hb]
  go_enter Tryz.func214,Tryz.ntmps214
  go_wp2_with (go_at_call 27;refine (bn _ _ _ _).mono ?_;rintro e w' ⟨rfl,rfl⟩;rw [hb])
  exact bodyPost_ret (v:=tk t) (by simp [results,Tryz.results214,go_sem]) rfl ⟨by rw [Hn.out],by repeat (first | exact aa.refl _ | refine aa.alloc ?_ _ | refine aa.drewN ?_ _ | refine aa.setCell ?_ (by simp [go_sem]) _)⟩
 ·have Hn:Hid (lh t x={ t with v:=x }):=by show _=_;simp [lh,hb]
  go_enter Tryz.func214,Tryz.ntmps214
  go_wp2_with (go_at_call 27;refine (bn _ _ _ _).mono ?_;rintro e w' ⟨rfl,rfl⟩;rw [hb])
  exact bodyPost_ret (v:=tk { t with v:=x }) (by simp [results,Tryz.results214,go_sem]) rfl ⟨by rw [Hn.out],by repeat (first | exact aa.refl _ | refine aa.alloc ?_ _ | refine aa.drewN ?_ _ | refine aa.setCell ?_ (by simp [go_sem]) _)⟩
end Go.Proofs.YteagpjlgjfaclaaGreatDoor
namespace Go.Proofs.YteagpjlgjfaclaaGreatDoor
set_option maxRecDepth 100000
open Go.RowKit
attribute [local go_sem] aa.refl aa.alloc aa.drew aa.drewN
theorem bW {α:Type} {xs:List α} {k:Nat} (h:k < xs.length):∃ x,xs[k]?=some x:=⟨xs[k],List.getElem?_eq_getElem h⟩
theorem da {α:Type} {xs:List α} {k:Nat} {x:α} (h:xs[k]?=some x):k < xs.length:=by
 rcases Nat.lt_or_ge k xs.length with h' | h'
 ·exact h'
 ·rw [List.getElem?_eq_none h'] at h;cases h
abbrev ic (x:Int):Array Value:=#[.int .i64 x]
theorem fW (x:Int):(ic x).size=1:=rfl
theorem lN (x:Int):∀ u∈(ic x).toList,u.oneCell'=true:=by
 intro u hu
 simp at hu
 subst hu
 rfl
def Ns (w:World) (a:Option Addr) (xs:List Int):Prop:=xs=[]∨∃ b off,a=some ⟨b,off,none⟩ /\ b < w.heap.size /\ ∀ i x,xs[i]?=some x->w.cell? ⟨b,off+i,none⟩=some (.int .i64 x)
theorem Ns.keeps {w w':World} {a:Option Addr} {xs:List Int} (h:Ns w a xs) (k:aa w w'):Ns w' a xs:=by
 rcases h with h | ⟨b,off,rfl,hb,h⟩
 ·exact .inl h
 ·exact .inr ⟨b,off,rfl,Nat.lt_of_lt_of_le hb k.size,fun i x hx=>(k.cells _ _ hb).trans (h i x hx)⟩
theorem Ns.at {w:World} {a:Option Addr} {xs:List Int} (h:Ns w a xs) {i:Nat} {x:Int} (hx:xs[i]?=some x) :
  ∃ b off,a=some ⟨b,off,none⟩ /\ ∀ w',aa w w'->w'.cell? ⟨b,off+i,none⟩=some (.int .i64 x):=by
 rcases h with rfl | ⟨b,off,rfl,hb,h⟩
 ·simp at hx
 ·exact ⟨b,off,rfl,fun w' k=>(k.cells _ _ hb).trans (h i x hx)⟩
theorem Ns.jG {w:World} {a:Option Addr} {xs:List Int} (h:cH 1 ic w a xs):Ns w a xs:=by
 rcases h with h | ⟨b,off,rfl,hb,h⟩
 ·exact .inl h
 ·exact .inr ⟨b,off,rfl,hb,fun i x hx=>by simpa using h i x hx 0 (by omega)⟩
theorem Ns.lies {w:World} {a:Option Addr} {xs:List Int} (h:Ns w a xs):cH 1 ic w a xs:=by
 rcases h with h | ⟨b,off,rfl,hb,h⟩
 ·exact .inl h
 ·refine .inr ⟨b,off,rfl,hb,fun i x hx k hk => ?_⟩
  obtain rfl:k=0:=by omega
  simpa using h i x hx
abbrev aS (w:World) (base:Nat) (v:Value) (xs:List Int):Prop:=Own 3 1 ic w base v xs
theorem MF (xs:List Int):bD ic xs=xs.map fun x => .int .i64 x:=by
 induction xs with
 | nil=>rfl
 | cons x r ih =>
  show (ic x).toList++bD ic r=_
  rw [ih];rfl
theorem aS.ns {w:World} {base:Nat} {v:Value} {xs:List Int} (h:aS w base v xs):∃ a cap,v = .slice a xs.length cap /\ Ns w a xs /\ xs.length <= cap /\ cap <= maxLen:=by
 obtain ⟨a,cap,e,l,h1,h2⟩:=h.slice fW
 exact ⟨a,cap,e,.jG l,h1,h2⟩
theorem aS.of {w:World} {base b cap:Nat} {xs:List Int} {ys:List Value} (h:w.ownsRow base 3 1 (.slice (some ⟨b,0,none⟩) xs.length cap) xs.length ys) (hy:∀ (j:Nat) (x:Int),xs[j]?=some x->ys[j]?=some (.int .i64 x)):aS w base (.slice (some ⟨b,0,none⟩) xs.length cap) xs:=by
 have e:ys=bD ic xs:=by
  rw [MF]
  have hl:ys.length=xs.length:=by have:=h.1;omega
  apply List.ext_getElem?
  intro j
  rcases Nat.lt_or_ge j xs.length with hj | hj
  ·rw [hy j xs[j] (List.getElem?_eq_getElem hj)]
   simp [hj]
  ·rw [List.getElem?_eq_none (by omega),List.getElem?_eq_none (by simpa using hj)]
 unfold aS Own
 rw [<- e]
 exact h
end Go.Proofs.YteagpjlgjfaclaaGreatDoor
namespace Go.Proofs.YteagpjlgjfaclaaGreatDoor
set_option maxRecDepth 100000
open Go.RowKit
attribute [local go_sem] aa.refl aa.alloc aa.drew aa.drewN
set_option maxHeartbeats 4000000 in
theorem Cg (t:ag) (floor:Int) (w:World) :
  Calls Tryz.prog 200 #[tk t,.int .i64 floor] w fun e w'=>e = .returned (tk (nk t floor)) /\ aa w w':=by
 go_enter Tryz.func200,Tryz.ntmps200
 go_wp2_with fail
 refine (mP t _).mono ?_
 rintro e w1 ⟨rfl,k1⟩
 have B1:=((ai.new w (tc t) 43).alloc (.cells (tc ag.zero) 43)).keeps k1
 have B2:=(ai.new (w.alloc (.cells (tc t) 43)) (tc ag.zero) 43).keeps k1
 have K1:Hid (aa w w1):=(((aa.refl w).alloc _).alloc _).trans k1
 simp only [World.size_alloc] at B2
 have R:Hid (ai w1 (w.heap.size+1) (tc ag.zero)):=B2
 have B0:Hid (ai w1 w.heap.size (tc t)):=B1
 obtain ⟨_,b1,b2⟩:=B1
 obtain ⟨_,c1,c2⟩:=B2
 clear k1
 cases hd:dY t
 ·have Hn:Hid (nk t floor=t):=by show _=_;simp [nk,hd]
  go_wp2
  have D:=R.out.putC (tc (t)).toList rfl
  have K:=aa.putC (b:=w.heap.size+1) (by omega) (tc (t)).toList 0 K1.out
  change bodyPost _ _ _ _ _ (putC w1 (w.heap.size+1) 0 (tc (t)).toList)
  generalize putC w1 (w.heap.size+1) 0 (tc (t)).toList=X at D K ⊢
  exact bodyPost_ret (v:=tk (t)) (by simp [results,Tryz.results200,go_sem,D.cells]) rfl ⟨by rw [Hn.out],K⟩
 ·have Hn:Hid (nk t floor=lh t (max t.v floor)):=by show _=_;simp [nk,hd]
  obtain ⟨N,HN⟩:∃ N,Hid (lh t (max t.v floor)=N):=⟨_,rfl⟩
  go_wp2_with fail
  have H0:Has w w.heap.size (tc t) w1:=⟨K1.out,B0.out⟩
  have r1:∀ w',Has w w.heap.size (tc t) w'->∀ k,w'.cell? ⟨w.heap.size,k,none⟩=(tc t)[k]?:=fun w' h=>h.box.cells
  clear b1 b2 c1 c2
  refine wp_region_held_drew (S:=(fun w'=>Has w w.heap.size (tc t) w')) (by kernel_rfl) ?_ (fun hHeld => ?_)
  ·exact H0.go (aa.refl _).drew
  refine ad.go [0,1,2,3] ?_
  iterate 4 (refine aJ (h := ?_);try simp only [ar])
  refine ad.nil ?_
  refine aO 4 (h:=fun K hK => ?_)
  go_simp
  first
   | (go_at_call 56;refine (mO _ _ _).mono ?_;rintro e w2 ⟨rfl,rfl⟩)
   | (go_at_call 214;refine (tV t _ _).mono ?_;rintro e w3 ⟨rfl,k3⟩;rw [HN.out])
  try go_wp2_with fail
  refine hK.out _ _ ?_ fun hHeld => ?_
  ·first | exact Has.go (by assumption) (by assumption) | assumption
  clear hK K
  try simp only [ar]
  refine aO 5 (h:=fun K hK => ?_)
  go_simp
  first
   | (go_at_call 56;refine (mO _ _ _).mono ?_;rintro e w2 ⟨rfl,rfl⟩)
   | (go_at_call 214;refine (tV t _ _).mono ?_;rintro e w3 ⟨rfl,k3⟩;rw [HN.out])
  try go_wp2_with fail
  refine hK.out _ _ ?_ fun hHeld => ?_
  ·first | exact Has.go (by assumption) (by assumption) | assumption
  clear hK K
  try simp only [ar]
  refine aO 6 (h:=fun K hK => ?_)
  have HB:=R.out.keeps ((aa.refl w1).drew.trans k3);have HD:Hid (ai w3 (w.heap.size+1) (tc ag.zero)):=HB;obtain ⟨_,q1,q2⟩:=HB
  go_simp
  try go_wp2_with fail
  refine hK.out _ _ ?_ fun hHeld => ?_
  ·exact Has.put (by assumption) (r:=w.heap.size+1) (by omega) (by omega) 0 (tc N).toList
  clear hK K
  try simp only [ar]
  refine wpAnyH_done (by kernel_rfl) ?_ _
  go_wp2
  have D:=HD.out.putC (tc N).toList rfl
  have K:=aa.putC (b:=w.heap.size+1) (by omega) (tc N).toList 0 (K1.out.trans ((aa.refl w1).drew.trans k3))
  change bodyPost _ _ _ _ _ (putC w3 (w.heap.size+1) 0 (tc N).toList)
  generalize putC w3 (w.heap.size+1) 0 (tc N).toList=X at D K ⊢
  exact bodyPost_ret (v:=tk N) (by simp [results,Tryz.results200,go_sem,D.cells]) rfl ⟨by rw [Hn.out,HN.out],K⟩
end Go.Proofs.YteagpjlgjfaclaaGreatDoor
namespace Go.Proofs.YteagpjlgjfaclaaGreatDoor
set_option maxRecDepth 100000
open Go.RowKit
theorem Ai {P:Program} {c:Code} {Q:Exit->Act->World->Prop} {a:Act} {w:World}
  (h:c.wp P (Exit.then (fun a' w'=>c.wp P (Exit.then (fun _ _=>False) Q) a' w') Q) a w):(Code.loop c).wp P Q a w:=by
 by_cases h0:c.wp P (Exit.then (fun _ _=>False) Q) a w
 ·exact wp_loop_once h0
 ·haveI:∀ (a':Act) (w':World),Decidable (c.wp P (Exit.then (fun _ _=>False) Q) a' w'):=fun _ _=>Classical.propDecidable _
  refine wp_loop (fun a' w'=>(a'=a /\ w'=w)∨c.wp P (Exit.then (fun _ _=>False) Q) a' w') (fun a' w'=>if c.wp P (Exit.then (fun _ _=>False) Q) a' w' then 0 else 1) (.inl ⟨rfl,rfl⟩) fun a' w' hi => ?_
  by_cases h1:c.wp P (Exit.then (fun _ _=>False) Q) a' w'
  ·exact Code.wp_mono (fun e a w q=>by cases e <;> first | exact q | exact q.elim) h1
  ·rcases hi with ⟨rfl,rfl⟩ | hi
   ·refine Code.wp_mono (fun e a w q => ?_) h
    cases e <;> first | exact q | (have q':c.wp P (Exit.then (fun _ _=>False) Q) a w:=q;refine ⟨.inr q',?_⟩;rw [if_pos q',if_neg h1];exact Nat.zero_lt_one)
   ·exact absurd hi h1
theorem qs {α:Type} {P:Program} {ops:Array Oper} {o:Oper} {a:Act} {w:World} {K:Act->World->Prop} {Q:Exit->Act->World->Prop} {E:Prop}
  (hg:o.guard=none) (s x:Operand) (t:TypeId) (hop:o.op=Op.call { callee:=Callee.builtin Builtin.append,args:=#[s,x],argTypes:=#[t,t] })
  (base:Nat) (e:TypeId) (z:Value) (sz bytes:Nat) (c:α->Array Value) (ht:P.underlying t=some (.slice e)) (hinfo:(P.info? e).map (fun i=>(i.zero,i.size,i.bytes))=some (some z,sz,bytes))
  (hzs:z.cells.size=sz) (hsz:0 < sz) (hc:∀ x,(c x).size=sz) (h1:∀ x,∀ u∈(c x).toList,u.oneCell'=true)
  (v:Value) (xs:List α) (hs:a.eval s=v) (hown:Own e sz c w base v xs) (hbase:base <= w.heap.size)
  (y:α) (b cp:Nat) (hb:ai w b (c y)) (hx:a.eval x = .slice (some ⟨b,0,none⟩) 1 cp)
  (h63:xs.length+1 <= maxLen) (hbytes:(xs.length+1)*bytes <= 140737488355328)
  (hK:∀ v' w',Own e sz c w' base v' (xs++[y])->w.grownBy w' v.ownBlock->K (a.put o.dst v') w') :
  if Region.wanted o (yielded ops a.tmps)=true then Oper.wp P o a w K Q else E:=by
 have hw:Region.wanted o (yielded ops a.tmps)=true:=by simp [Region.wanted,hg]
 rw [if_pos hw]
 obtain ⟨i,hi,hzz⟩:=Option.map_eq_some_iff.1 hinfo
 simp only [Prod.mk.injEq] at hzz
 obtain ⟨hz0,hz1,hz2⟩:=hzz
 have hfl:bD c [y]=(c y).toList:=by simp [bD]
 obtain ⟨v',w',hrun,r1,r2,_⟩:=run_append_own (P:=P) w base t o.type e i z sz bytes ht hi hz0 hz1 hz2 hzs hsz v xs.length (bD c xs) hown ⟨b,0,none⟩ 1 cp (bD c [y]) (by rw [hfl];simp [hc])
  (by
   intro j u hj
   rw [hfl] at hj
   have ea:(⟨b,0,none⟩:Addr).add j=⟨b,j,none⟩:=by unfold Addr.add;by_cases h:j=0 <;> simp [h]
   rw [ea,hb.cells j]
   simpa using hj) (pL h1 [y]) h63 hbytes hbase
 unfold Oper.wp
 simp [execOp,hop,resolve,invoke,builtin,hs,hx,hrun,Result.andThen]
 refine hK v' w' ?_ r2
 unfold Own
 rw [tq,List.length_append]
 exact r1
theorem Own.free {α:Type} {e:TypeId} {sz:Nat} {c:α->Array Value} {w:World} {base b cap n:Nat} {xs:List α} (h:Own e sz c w base (.slice (Option.some ⟨b,0,none⟩) n cap) xs):base <= b /\ b < w.heap.size /\ ∀ k,w.frozen? ⟨b,k,none⟩=false:=by
 obtain ⟨_,⟨e,_⟩ | ⟨b',cp,cur,e,hb,hh,_⟩⟩:=h
 ·simp at e
 ·simp only [Value.slice.injEq,Option.some.injEq,Addr.mk.injEq] at e
  obtain ⟨⟨rfl,-⟩,-,-⟩:=e
  have hlt:b < w.heap.size:=by
   rcases Nat.lt_or_ge b w.heap.size with hlt | hge
   ·exact hlt
   ·rw [Array.getElem?_eq_none hge] at hh;cases hh
  exact ⟨hb,hlt,fun k=>by simp [World.frozen?,hh]⟩
theorem ai.grown {w w':World} {b:Nat} {C:Array Value} {row:Option Nat} (h:ai w b C) (hg:w.grownBy w' row) (hr:∀ k,row=some k->k≠b):ai w' b C:=by
 have e:=hg.block b h.lt (fun e=>hr b e.symm rfl)
 exact ⟨Nat.lt_of_lt_of_le h.lt hg.size,fun k=>(World.cell?_of_block (w:=w) e).trans (h.cells k),fun k=>(World.frozen?_of_block (w:=w) e).trans (h.aM k)⟩
theorem sd {b c j:Nat} (h:b≠c):∀ (Ls:List Value) (w:World) (k:Nat),(putC w b k Ls).cell? ⟨c,j,none⟩=w.cell? ⟨c,j,none⟩
 | [],_,_=>rfl
 | v::r,w,k=>(sd h r (w.setCell ⟨b,k,none⟩ v) (k+1)).trans (fp (.inl h) v)
theorem wF {b j:Nat}:∀ (Ls:List Value) (w:World) (k:Nat),j < k->(putC w b k Ls).cell? ⟨b,j,none⟩=w.cell? ⟨b,j,none⟩
 | [],_,_,_=>rfl
 | v::r,w,k,h=>(wF r (w.setCell ⟨b,k,none⟩ v) (k+1) (by omega)).trans (fp (.inr (by omega)) v)
theorem Ch {b:Nat}:∀ (Ls:List Value) (w:World) (k:Nat),(∀ i,i < Ls.length->∃ u,w.cell? ⟨b,k+i,none⟩=some u)->∀ i,i < Ls.length->(putC w b k Ls).cell? ⟨b,k+i,none⟩=Ls[i]?
 | [],_,_,_,i,hi=>by simp at hi
 | v::r,w,k,h,0,_=>by
  obtain ⟨u,hu⟩:=h 0 (by simp)
  exact (wF r (w.setCell ⟨b,k,none⟩ v) (k+1) (by omega)).trans (by simpa using mz (u:=u) (by simpa using hu) v)
 | v::r,w,k,h,i+1,hi=>by
  have ih:=Ch r (w.setCell ⟨b,k,none⟩ v) (k+1) (fun j hj=>by
   obtain ⟨u,hu⟩:=h (j+1) (by simp;omega)
   exact ⟨u,by rw [fp (.inr (by omega)),show k+1+j=k+(j+1) by omega];exact hu⟩) i (by simpa using hi)
  rw [show k+1+i=k+(i+1) by omega] at ih
  simpa [putC] using ih
theorem wG (w:World) (a:Addr):w.drew.cell? a=w.cell? a:=rfl
theorem Ag {w:World} {b L:Nat} {A B:List Value} (hne:L < b) (hc:∀ i,i < 9->∃ u,w.cell? ⟨b,i,none⟩=some u) (hB:B.length=9) :
  (putC (putC w b 9 A) b 0 B).drew.cell? ⟨L,0,none⟩=w.cell? ⟨L,0,none⟩ /\ ∀ i,i < 9->(putC (putC w b 9 A) b 0 B).drew.cell? ⟨b,i,none⟩=B[i]?:=by
 refine ⟨?_,fun i hi => ?_⟩
 ·rw [wG,sd (by omega),sd (by omega)]
 ·have:=Ch (b:=b) B (putC w b 9 A) 0 (fun j hj=>by
   obtain ⟨u,hu⟩:=hc j (by omega)
   exact ⟨u,by rw [wF _ _ _ (by omega),Nat.zero_add];exact hu⟩) i (by omega)
  rw [Nat.zero_add] at this
  rw [wG]
  exact this
theorem Jc {w:World} {b L j:Nat} {A B:List Value} (hne:L < b):(putC (putC w b 9 A) b 0 B).drew.cell? ⟨L,j,none⟩=w.cell? ⟨L,j,none⟩:=by
 rw [wG,sd (by omega),sd (by omega)]
theorem Ah {W0 w:World} {b:Nat} (A B:List Value) (k:aa W0 w) (hb:W0.heap.size <= b):aa W0 (putC (putC w b 9 A) b 0 B).drew :=
 (aa.putC (b:=b) hb B 0 (aa.putC (b:=b) hb A 9 k)).drew
end Go.Proofs.YteagpjlgjfaclaaGreatDoor
namespace Go.Proofs.YteagpjlgjfaclaaGreatDoor
set_option maxRecDepth 100000
open Go.RowKit
def goes (P:Program) (c:Code) (Q:Exit->Act->World->Prop):Nat->Exit->Act->World->Prop
 | 0,.goto _,_,_=>False
 | n+1,.goto l,a,w=>∃ rest,findLabel c l=some rest /\ rest.wp P (goes P c Q n) a w
 | _,.normal,a,w=>Q .normal a w
 | _,.exit id,a,w=>Q (.exit id) a w
 | _,.ret,a,w=>Q .ret a w
 | _,.panic ch,a,w=>Q (.panic ch) a w
 | _,.outgrown,a,w=>Q .outgrown a w
section
variable {P:Program} {c:Code} {Q:Exit->Act->World->Prop} {a:Act} {w:World} {n:Nat}
end
end Go.Proofs.YteagpjlgjfaclaaGreatDoor
namespace Go.Proofs.YteagpjlgjfaclaaGreatDoor
set_option maxRecDepth 100000
open Go.ChangeShapes Go.WideShapes Go.ChangeAt Go.RowKit
theorem L7 {H:Type} {enc:TypeId × Value->H} {W:World} {a:Option Addr} {len cap:Nat} {d:DataW H} {p:List MemPlace}
  (h:DataW.Trod enc Tryz.prog W 0 (fun _=>true) true 22 (.slice a len cap) d p):len <= maxLen /\ ∀ g,W.heap.size <= g->Bytes g W a len:=by
 obtain ⟨fuel,hf⟩:=h
 rcases open_ints Tryz.underlying22 Tryz.underlying5 (by kernel_rfl) hf with ⟨hcs,_⟩ | ⟨x,l,c,zs,hcs,_,hl,hm,hz,_,hcell,hwz⟩
 ·simp [Value.cells] at hcs
  obtain ⟨rfl,rfl,rfl⟩:=hcs
  exact ⟨by simp,fun g _ => .inl rfl⟩
 ·simp [Value.cells] at hcs
  obtain ⟨rfl,rfl,rfl⟩:=hcs
  have hz':zs.length=cap:=by simpa using hz
  refine ⟨by omega,fun g hg => ?_⟩
  by_cases h0:len=0
  ·exact .inl h0
  obtain ⟨b,off,spot⟩:=x
  have hs:spot=none:=by
   have:=World.cell?_spot (hcell 0 (by omega))
   simpa [Addr.add] using this
  subst hs
  have hb:b < W.heap.size:=by
   have:=World.block_lt_of_cell? W _ (hcell 0 (by omega))
   simpa [Addr.add] using this
  refine .inr ⟨b,off,rfl,by omega,fun j hj => ?_⟩
  have hj':j < zs.length:=by omega
  have hw:=hwz (zs.getD j 0) (by simp [hj'])
  have Ci:=bounds_u8 hw
  have hc:=hcell j hj'
  have e:(⟨b,off,none⟩:Addr).add j=⟨b,off+j,none⟩:=by
   unfold Addr.add
   by_cases h:j=0 <;> simp [h]
  rw [e] at hc
  exact ⟨_,Ci.1,Ci.2,hc⟩
end Go.Proofs.YteagpjlgjfaclaaGreatDoor
namespace Go.Proofs.YteagpjlgjfaclaaGreatDoor
set_option maxRecDepth 100000
open Go.RowKit
attribute [local go_sem] aa.refl aa.alloc aa.drew aa.drewN
structure Lv where
 o:Int
 a:Option Addr
 n:Nat
 cap:Nat
abbrev Lv.row (x:Lv):Value := .slice x.a x.n x.cap
abbrev gk (x:Lv):Array Value:=#[.int .i64 x.o,.slice x.a x.n x.cap]
theorem gJ (x:Lv):(gk x).size=2:=rfl
theorem Cc (x:Lv):∀ u∈(gk x).toList,u.oneCell'=true:=by
 intro u hu
 simp at hu
 rcases hu with rfl | rfl <;> rfl
def Plain (w:World) (a:Option Addr) (n cap:Nat):Prop:=(a=none /\ n=0 /\ cap=0)∨∃ b off,a=some ⟨b,off,none⟩ /\ b < w.heap.size /\ n <= cap
theorem Plain.keeps {w w':World} {a:Option Addr} {n cap:Nat} (h:Plain w a n cap) (k:aa w w'):Plain w' a n cap:=by
 rcases h with h | ⟨b,off,h1,h2,h3⟩
 ·exact .inl h
 ·exact .inr ⟨b,off,h1,Nat.lt_of_lt_of_le h2 k.size,h3⟩
structure Fits (p:Bool) (w:World) (x:Lv) (l:Lk):Prop where
 o:x.o=l.owner
 n:x.n=l.waits.length
 le:l.waits.length <= maxLen
 ns:Ns w x.a l.waits
 pl:p=true->Plain w x.a x.n x.cap
def dU (p:Bool) (w:World) (a:Option Addr) (ls:List Lk):Prop:=∃ vs:List Lv,vs.length=ls.length /\ cH 2 gk w a vs /\ ∀ (i:Nat) (x:Lv) (l:Lk),vs[i]?=some x->ls[i]?=some l->Fits p w x l
theorem dU.keeps {p:Bool} {w w':World} {a:Option Addr} {ls:List Lk} (h:dU p w a ls) (k:aa w w'):dU p w' a ls:=by
 obtain ⟨vs,h1,h2,h3⟩:=h
 exact ⟨vs,h1,h2.keeps k,fun i x l hx hl=>⟨(h3 i x l hx hl).o,(h3 i x l hx hl).n,(h3 i x l hx hl).le,(h3 i x l hx hl).ns.keeps k,fun e=>((h3 i x l hx hl).pl e).keeps k⟩⟩
theorem dU.tK {p:Bool} {w:World} {a:Option Addr} {ls:List Lk} (h:dU p w a ls) {i:Nat} {l:Lk} (hl:ls[i]?=some l) :
  ∃ b off a' cap,a=some ⟨b,off,none⟩ /\ (∀ w',aa w w'->w'.cell? ⟨b,off+i*2,none⟩=some (.int .i64 l.owner)) /\ (∀ w',aa w w'->w'.cell? ⟨b,off+i*2+1,none⟩=some (.slice a' l.waits.length cap)) /\ l.waits.length <= maxLen /\ Ns w a' l.waits /\ (p=true->Plain w a' l.waits.length cap):=by
 obtain ⟨vs,h1,h2,h3⟩:=h
 obtain ⟨x,hx⟩:=bW (xs:=vs) (k:=i) (by rw [h1];exact da hl)
 obtain ⟨b,off,rfl,r0,r1⟩:=h2.at hx (by omega)
 have F:=h3 i x l hx hl
 refine ⟨b,off,x.a,x.cap,rfl,fun w' k => ?_,fun w' k => ?_,F.le,F.ns,fun e=>by have:=F.pl e;rw [F.n] at this;exact this⟩
 ·rw [r0 w' k,<- F.o];rfl
 ·rw [r1 w' k 1 (by omega),<- F.n];rfl
theorem dU.at {p:Bool} {w:World} {a:Option Addr} {ls:List Lk} (h:dU p w a ls) {i:Nat} {l:Lk} (hl:ls[i]?=some l) :
  ∃ b off a' cap,a=some ⟨b,off,none⟩ /\ (∀ w',aa w w'->w'.cell? ⟨b,off+i*2,none⟩=some (.int .i64 l.owner)) /\ (∀ w',aa w w'->w'.cell? ⟨b,off+i*2+1,none⟩=some (.slice a' l.waits.length cap)) /\ l.waits.length <= maxLen /\ Ns w a' l.waits:=by
 obtain ⟨b,off,a',cap,e,r0,r1,h1,h2,-⟩:=h.tK hl
 exact ⟨b,off,a',cap,e,r0,r1,h1,h2⟩
theorem dU.nil (p:Bool) (w:World) (a:Option Addr):dU p w a []:=⟨[],rfl,.inl rfl,fun i x l h=>by simp at h⟩
theorem Own.same {α:Type} {e:TypeId} {sz:Nat} {c:α->Array Value} {w w':World} {base:Nat} {v:Value} {xs:List α} (h:Own e sz c w base v xs) (k:∀ b,v.ownBlock=Option.some b->w'.heap[b]?=w.heap[b]?):Own e sz c w' base v xs:=by
 obtain ⟨h1,h2⟩:=h
 refine ⟨h1,?_⟩
 rcases h2 with h2 | ⟨b,cap,cur,rfl,hb,hh,r⟩
 ·exact .inl h2
 ·refine .inr ⟨b,cap,cur,rfl,hb,?_,r⟩
  rw [k b rfl];exact hh
theorem Own.cD {α:Type} {e:TypeId} {sz:Nat} {c:α->Array Value} {w:World} {base:Nat} {v:Value} {xs:List α} (h:Own e sz c w base v xs):∀ b,v.ownBlock=Option.some b->base <= b /\ b < w.heap.size:=World.ownsRow.lt h
structure Mine (w:World) (lo hi:Nat) (v:Value) (vs:List Lv) (ls:List Lk):Prop where
 len:vs.length=ls.length
 own:Own 37 2 gk w lo v vs
 out:∀ b,v.ownBlock=some b->b < hi
 rows:∀ (i:Nat) (x:Lv) (l:Lk),vs[i]?=some x->ls[i]?=some l->x.o=l.owner /\ aS w lo x.row l.waits
 gj:∀ (i:Nat) (x:Lv) (b:Nat),vs[i]?=some x->x.row.ownBlock=some b->b < hi /\ v.ownBlock≠some b
 apart:∀ (i j:Nat) (x y:Lv) (b:Nat),vs[i]?=some x->vs[j]?=some y->x.row.ownBlock=some b->y.row.ownBlock=some b->i=j
theorem Mine.same {w w':World} {lo hi:Nat} {v:Value} {vs:List Lv} {ls:List Lk} (h:Mine w lo hi v vs ls) (k:∀ b,lo <= b->b < hi->b < w.heap.size->w'.heap[b]?=w.heap[b]?):Mine w' lo hi v vs ls:=by
 refine ⟨h.len,h.own.same fun b hb=>k b (h.own.cD b hb).1 (h.out b hb) (h.own.cD b hb).2,h.out,fun i x l hx hl => ?_,h.gj,h.apart⟩
 obtain ⟨h1,h2⟩:=h.rows i x l hx hl
 exact ⟨h1,h2.same fun b hb=>k b (h2.cD b hb).1 (h.gj i x b hx hb).1 (h2.cD b hb).2⟩
theorem Mine.keeps {w w':World} {lo hi:Nat} {v:Value} {vs:List Lv} {ls:List Lk} (h:Mine w lo hi v vs ls) (k:aa w w'):Mine w' lo hi v vs ls:=h.same fun b _ _ hb=>Below.block k b hb
theorem Mine.widen {w:World} {lo nI hi hi':Nat} {v:Value} {vs:List Lv} {ls:List Lk} (h:Mine w lo hi v vs ls) (h1:nI <= lo) (h2:hi <= hi'):Mine w nI hi' v vs ls :=
 ⟨h.len,h.own.base h1,fun b hb=>Nat.lt_of_lt_of_le (h.out b hb) h2,fun i x l hx hl=>⟨(h.rows i x l hx hl).1,(h.rows i x l hx hl).2.base h1⟩,fun i x b hx hb=>⟨Nat.lt_of_lt_of_le (h.gj i x b hx hb).1 h2,(h.gj i x b hx hb).2⟩,h.apart⟩
theorem Mine.gP {w:World} {lo hi:Nat} {v:Value} {vs:List Lv} {ls:List Lk} (h:Mine w lo hi v vs ls):∃ a cap,v = .slice a ls.length cap /\ dU true w a ls /\ ls.length <= maxLen:=by
 obtain ⟨a,cap,rfl,l,h1,h2⟩:=h.own.slice gJ
 have hle:=h.len
 refine ⟨a,cap,by rw [h.len],⟨vs,h.len,l,fun i x l hx hl => ?_⟩,by omega⟩
 obtain ⟨r1,r2⟩:=h.rows i x l hx hl
 have r2':=r2
 obtain ⟨a',cap',e,ns,l1,l2⟩:=r2.ns
 simp only [Value.slice.injEq] at e
 obtain ⟨rfl,e2,rfl⟩:=e
 refine ⟨r1,e2,by omega,ns,fun _ => ?_⟩
 obtain ⟨_,⟨e3,hn⟩ | ⟨b',cp,cur,e3,_⟩⟩:=r2
 ·simp only [Value.slice.injEq] at e3
  exact .inl e3
 ·have h3:=(Own.cD r2' b' (by rw [e3];rfl)).2
  simp only [Value.slice.injEq] at e3
  exact .inr ⟨b',0,e3.1,h3,by omega⟩
theorem Mine.args {w:World} {lo hi:Nat} {v:Value} {vs:List Lv} {ls:List Lk} (h:Mine w lo hi v vs ls):∃ a cap,v = .slice a ls.length cap /\ dU true w a ls /\ Plain w a ls.length cap /\ ls.length <= maxLen:=by
 obtain ⟨a,cap,e,l,hm⟩:=h.gP
 refine ⟨a,cap,e,l,?_,hm⟩
 have O:=h.own
 obtain ⟨_,⟨e3,hn⟩ | ⟨b',cp,cur,e3,_,_,hc,_⟩⟩:=O
 ·rw [e] at e3
  simp only [Value.slice.injEq] at e3
  exact .inl e3
 ·have h3:=(Own.cD h.own b' (by rw [e3];rfl)).2
  rw [e] at e3
  simp only [Value.slice.injEq] at e3
  exact .inr ⟨b',0,e3.1,h3,by have:=h.len;omega⟩
structure Within (lo hi:Nat) (w w':World):Prop where
 os:w'.os=w.os
 tape:w'.tape=w.tape
 output:w'.output=w.output
 size:w.heap.size <= w'.heap.size
 block:∀ b,b < w.heap.size->(b < lo∨hi <= b)->w'.heap[b]?=w.heap[b]?
theorem Within.refl (lo hi:Nat) (w:World):Within lo hi w w:=⟨rfl,rfl,rfl,Nat.le_refl _,fun _ _ _=>rfl⟩
theorem Within.trans {lo hi:Nat} {a b c:World} (h:Within lo hi a b) (k:Within lo hi b c):Within lo hi a c :=
 ⟨k.os.trans h.os,k.tape.trans h.tape,k.output.trans h.output,Nat.le_trans h.size k.size,fun i hi' ho=>(k.block i (Nat.lt_of_lt_of_le hi' h.size) ho).trans (h.block i hi' ho)⟩
theorem Within.keeps {lo hi:Nat} {w0 w w':World} (h:Within lo hi w w') (k:aa w0 w) (hl:w0.heap.size <= lo):aa w0 w' :=
 Below.trans k ⟨h.os,h.tape,h.output,h.size,fun i hi'=>h.block i (Nat.lt_of_lt_of_le hi' k.size) (.inl (Nat.lt_of_lt_of_le hi' hl))⟩
theorem Within.grown {lo hi:Nat} {w w':World} {row:Option Nat} (h:w.grownBy w' row) (hr:∀ b,row=some b->lo <= b /\ b < hi):Within lo hi w w' :=
 ⟨h.os,h.tape,h.output,h.size,fun i hi' ho=>h.block i hi' fun e=>by have:=hr i e.symm;omega⟩
theorem Within.mine {lo hi nI hi':Nat} {w w':World} {v:Value} {vs:List Lv} {ls:List Lk} (h:Within nI hi' w w') (m:Mine w lo hi v vs ls) (ho:hi <= nI∨hi' <= lo):Mine w' lo hi v vs ls :=
 m.same fun b h1 h2 h3=>h.block b h3 (by omega)
theorem Cj {α:Type} {c:α->Array Value} {sz:Nat} (hc:∀ x,(c x).size=sz):∀ (xs:List α) (i:Nat) (x y:α) (j:Nat) (u:Value),xs[i]?=some x->j < sz->(c y).toList=(c x).toList.set j u->bD c (xs.set i y)=(bD c xs).set (i*sz+j) u
 | [],i,x,y,j,u,h,_,_=>by simp at h
 | z::r,0,x,y,j,u,h,hj,hy=>by
  simp at h
  subst h
  show (c y).toList++bD c r=((c z).toList++bD c r).set (0*sz+j) u
  rw [Nat.zero_mul,Nat.zero_add,List.set_append_left _ _ (by simp [hc,hj]),hy]
 | z::r,i+1,x,y,j,u,h,hj,hy=>by
  have ih:=Cj hc r i x y j u (by simpa using h) hj hy
  show (c z).toList++bD c (r.set i y)=((c z).toList++bD c r).set ((i+1)*sz+j) u
  rw [ih,List.set_append_right _ _ (by simp only [Array.length_toList,hc,Nat.add_mul,Nat.one_mul];omega)]
  congr 2
  simp only [Array.length_toList,hc,Nat.add_mul,Nat.one_mul]
  omega
theorem Own.setAt {α:Type} {e:TypeId} {sz:Nat} {c:α->Array Value} {w:World} {base b n cap:Nat} {xs:List α} (h:Own e sz c w base (.slice (Option.some ⟨b,0,none⟩) n cap) xs) (hc:∀ x,(c x).size=sz) {i j:Nat} {x y:α} {u:Value} (hx:xs[i]?=Option.some x) (hj:j < sz) (hy:(c y).toList=(c x).toList.set j u) :
  Own e sz c (w.setCell ⟨b,i*sz+j,none⟩ u) base (.slice (Option.some ⟨b,0,none⟩) n cap) (xs.set i y):=by
 have hn:n=xs.length:=by
  obtain ⟨_,⟨e,_⟩ | ⟨b',cp,cur,e,_⟩⟩:=h
  ·simp at e
  ·simp only [Value.slice.injEq] at e;exact e.2.1
 subst hn
 have:=(World.ownsRow.stored h (i*sz+j) u).1
 unfold Own
 rw [Cj hc xs i x y j u hx hj hy,List.length_set]
 exact this
theorem Own.blk {α:Type} {e:TypeId} {sz:Nat} {c:α->Array Value} {w:World} {base:Nat} {v:Value} {xs:List α} (h:Own e sz c w base v xs) (hx:0 < xs.length):∃ b cap,v = .slice (Option.some ⟨b,0,none⟩) xs.length cap:=by
 obtain ⟨_,⟨e,hn⟩ | ⟨b',cp,cur,e,_⟩⟩:=h
 ·omega
 ·exact ⟨b',cp,e⟩
theorem Own.cellAt {α:Type} {e:TypeId} {sz:Nat} {c:α->Array Value} {w:World} {base b cap:Nat} {xs:List α} (h:Own e sz c w base (.slice (Option.some ⟨b,0,none⟩) xs.length cap) xs) (hc:∀ x,(c x).size=sz) {i k:Nat} {x:α} (hx:xs[i]?=Option.some x) (hk:k < sz):w.cell? ⟨b,i*sz+k,none⟩=(c x)[k]?:=by
 have hi:=da hx
 have:i*sz+k < xs.length*sz:=by
  have h1:(i+1)*sz <= xs.length*sz:=Nat.mul_le_mul_right sz hi
  rw [Nat.add_mul,Nat.one_mul] at h1
  omega
 rw [World.ownsRow.cellAt h _ this,np hc xs i x hx k hk]
theorem Own.frozenAt {α:Type} {e:TypeId} {sz:Nat} {c:α->Array Value} {w:World} {base b cap:Nat} {xs:List α} (h:Own e sz c w base (.slice (Option.some ⟨b,0,none⟩) xs.length cap) xs) (k:Nat):w.frozen? ⟨b,k,none⟩=false:=World.ownsRow.frozenAt h k
theorem gz {w:World} {b o:Nat} {u:Value} {k:Nat} (h:k≠b):(w.setCell ⟨b,o,none⟩ u).heap[k]?=w.heap[k]?:=Below.heap_setCell _ _ _ _ h
theorem lB {α:Type} {xs:List α} {k i:Nat} {x y:α} (h:(xs.set k y)[i]?=some x):(i=k /\ x=y)∨(i≠k /\ xs[i]?=some x):=by
 by_cases e:k=i
 ·subst e
  have hl:k < xs.length:=by have:=da h;simpa using this
  rw [List.getElem?_set_self hl] at h
  cases h;exact .inl ⟨rfl,rfl⟩
 ·rw [List.getElem?_set_ne e] at h
  exact .inr ⟨Ne.symm e,h⟩
theorem Mine.fB {w:World} {lo hi b cap:Nat} {vs:List Lv} {ls:List Lk} (h:Mine w lo hi (.slice (some ⟨b,0,none⟩) vs.length cap) vs ls) {k:Nat} {x:Lv} {l:Lk} (hx:vs[k]?=some x) (hl:ls[k]?=some l) (c:Int) :
  Mine (w.setCell ⟨b,k*2,none⟩ (.int .i64 c)) lo hi (.slice (some ⟨b,0,none⟩) (vs.set k { x with o:=c }).length cap) (vs.set k { x with o:=c }) (ls.set k { l with owner:=c }):=by
 refine ⟨by simp [h.len],?_,h.out,?_,?_,?_⟩
 ·have:=h.own.setAt gJ (i:=k) (j:=0) (x:=x) (y:={ x with o:=c }) (u := .int .i64 c) hx (by omega) rfl
  simpa using this
 ·intro i y m hy hm
  have key:∀ u:Lv,(∀ b',u.row.ownBlock=some b'->b'≠b)->∀ ws,aS w lo u.row ws->aS (w.setCell ⟨b,k*2,none⟩ (.int .i64 c)) lo u.row ws:=fun u hu ws ho=>ho.same fun b' hb'=>gz (hu b' hb')
  have hne:∀ (j:Nat) (u:Lv),vs[j]?=some u->∀ b',u.row.ownBlock=some b'->b'≠b:=fun j u hu b' hb' e=>(h.gj j u b' hu hb').2 (by rw [e];rfl)
  rcases lB hy with ⟨rfl,rfl⟩ | ⟨hik,hy⟩ <;> rcases lB hm with ⟨h1,rfl⟩ | ⟨h1,hm⟩
  ·exact ⟨rfl,key x (hne i x hx) _ (h.rows i x l hx hl).2⟩
  ·exact absurd rfl h1
  ·exact absurd h1 hik
  ·exact ⟨(h.rows i y m hy hm).1,key y (hne i y hy) _ (h.rows i y m hy hm).2⟩
 ·intro i y b' hy hb'
  rcases lB hy with ⟨rfl,rfl⟩ | ⟨_,hy⟩
  ·exact h.gj i x b' hx hb'
  ·exact h.gj i y b' hy hb'
 ·intro i j y z b' hy hz e1 e2
  rcases lB hy with ⟨rfl,rfl⟩ | ⟨_,hy2⟩ <;> rcases lB hz with ⟨rfl,rfl⟩ | ⟨_,hz2⟩
  ·rfl
  ·exact h.apart i j x z b' hx hz2 e1 e2
  ·exact h.apart i j y x b' hy2 hx e1 e2
  ·exact h.apart i j y z b' hy2 hz2 e1 e2
theorem Mine.turned {w w':World} {lo hi:Nat} {v:Value} {vs:List Lv} {ls:List Lk} (h:Mine w lo hi v vs ls) {k:Nat} {x:Lv} {l:Lk} (hx:vs[k]?=some x) (hl:ls[k]?=some l) {ws:List Int} (g:w.grownBy w' x.row.ownBlock) (ho:aS w' lo x.row ws) :
  Mine w' lo hi v vs (ls.set k { l with waits:=ws }):=by
 refine ⟨by simp [h.len],h.own.same fun b hb=>g.block b (h.own.cD b hb).2 (fun e=>(h.gj k x b hx e.symm).2 hb),h.out,?_,h.gj,h.apart⟩
 intro i y m hy hm
 rcases lB hm with ⟨rfl,rfl⟩ | ⟨h1,hm⟩
 ·rw [hx] at hy
  cases hy
  exact ⟨(h.rows i x l hx hl).1,ho⟩
 ·obtain ⟨r1,r2⟩:=h.rows i y m hy hm
  exact ⟨r1,r2.same fun b hb=>g.block b (r2.cD b hb).2 (fun e=>h1 (h.apart i k y x b hy hx hb e.symm))⟩
end Go.Proofs.YteagpjlgjfaclaaGreatDoor
namespace Go.Proofs.YteagpjlgjfaclaaGreatDoor
set_option maxRecDepth 100000
open Go.RowKit
variable {p p':Bool}
attribute [local go_sem] aa.refl aa.alloc aa.drew aa.drewN
def bC:List Lk->Nat
 | []=>0
 | l::r=>l.waits.length+bC r
theorem Ck (xs ys:List Lk):bC (xs++ys)=bC xs+bC ys:=by
 induction xs with
 | nil=>simp [bC]
 | cons x r ih=>simp only [List.cons_append,bC,ih];omega
theorem qp {ls:List Lk} {k:Nat} {l:Lk} (h:ls[k]?=some l):bC (ls.take (k+1))=bC (ls.take k)+l.waits.length:=by
 rw [List.take_add_one,h,Ck]
 simp [bC]
theorem uv (ls:List Lk) (k:Nat):bC (ls.take k) <= bC ls:=by
 have:=Ck (ls.take k) (ls.drop k)
 rw [List.take_append_drop] at this
 omega
theorem lM {ls:List Lk} {k:Nat} {l:Lk} (h:ls[k]?=some l):l.waits.length <= bC ls:=by
 have:=qp h
 have:=uv ls (k+1)
 omega
def bT (ls:List Lk):Nat:=ls.length+bC ls
end Go.Proofs.YteagpjlgjfaclaaGreatDoor
namespace Go.Proofs.YteagpjlgjfaclaaGreatDoor
set_option maxRecDepth 100000
open Go.RowKit
variable {p:Bool}
attribute [local go_sem] aa.refl aa.alloc aa.drew aa.drewN
theorem yt {xs:List Int} {x:Int} {k:Nat} {y:Int} (hy:xs[k]?=some y) (h:(y==x)=true):hasB xs x=true:=by
 rw [il]
 have:=List.mem_of_getElem? hy
 simp at h
 rw [<- h];exact this
theorem yu {xs:List Int} {x:Int} (h:∀ (j:Nat) (y:Int),xs[j]?=some y->(y==x)=false):hasB xs x=false:=by
 rw [we]
 intro hm
 obtain ⟨j,hj,e⟩:=List.mem_iff_getElem.1 hm
 have:=h j _ (List.getElem?_eq_getElem hj)
 simp [e] at this
set_option maxHeartbeats 1000000 in
theorem pM (a:Option Addr) (cap:Nat) (xs:List Int) (x:Int) (w:World) (hl:xs.length <= maxLen) (hs:Ns w a xs) :
  Calls Tryz.prog 147 #[.slice a xs.length cap,.int .i64 x] w fun e w'=>e = .returned (.bool (hasB xs x)) /\ aa w w':=by
 unfold maxLen at hl
 generalize hn:xs.length=n at hl
 have Hn:Hid (xs.length=n):=hn
 clear hn
 go_enter Tryz.func147,Tryz.ntmps147
 go_wp2
 go_loopw [5] (fun i wr=>∃ k:Nat,k <= n /\ i = .int .i64 k /\ aa w wr /\ Hid (∀ (j:Nat) (y:Int),j < k->xs[j]?=some y->(y==x)=false)) (fun i _=>n - (intOf i).toNat)
 case atStart=>exact ⟨0,Nat.zero_le _,rfl,aa.refl _,fun j y hj=>by omega⟩
 case round =>
  obtain ⟨k,hk,rfl,hK,H⟩:=hrel
  by_cases hlt:k < n
  ·obtain ⟨y,hy⟩:=bW (xs:=xs) (k:=k) (by rw [Hn.out];exact hlt)
   obtain ⟨b,off,rfl,r0⟩:=hs.at hy
   have hlt':(k:Int) < (n:Int):=by omega
   have Hy:Hid (xs[k]?=some y):=hy
   clear hs hy
   cases hq:(y==x)
   ·go_wp2
    exact ⟨⟨k+1,by omega,by go_num,hK,fun j s hj hs=>by
     by_cases e:j=k
     ·subst e;rw [Hy.out] at hs;cases hs;exact hq
     ·exact H.out j s (by omega) hs⟩,by simp only [intOf];omega⟩
   ·have Hr:Hid (hasB xs x=true):=yt Hy.out hq
    go_wp2
    go_ret
    exact ⟨by rw [Hr.out];rfl,hK⟩
  ·have Hr:Hid (hasB xs x=false):=yu fun j y hy=>H.out j y (by have:=da hy;rw [Hn.out] at this;omega) hy
   go_wp2
   go_ret
   exact ⟨by rw [Hr.out];rfl,hK⟩
set_option maxHeartbeats 1000000 in
theorem tW (a:Option Addr) (cap:Nat) (ls:List Lk) (no:Int) (w:World) (hl:ls.length <= maxLen) (hs:dU p w a ls) :
  Calls Tryz.prog 84 #[.slice a ls.length cap,.int .i64 no] w fun e w'=>e = .returned (.int .i64 (d8 ls no)) /\ aa w w':=by
 unfold maxLen at hl
 generalize hn:ls.length=n at hl
 have Hn:Hid (ls.length=n):=hn
 clear hn
 go_enter Tryz.func84,Tryz.ntmps84
 go_wp2
 go_loopw [5] (fun i wr=>∃ k:Nat,k <= n /\ i = .int .i64 k /\ aa w wr /\ Hid (∀ (j:Nat) (m:Lk),j < k->ls[j]?=some m->hasB m.waits no=false)) (fun i _=>n - (intOf i).toNat)
 case atStart=>exact ⟨0,Nat.zero_le _,rfl,aa.refl _,fun j y hj=>by omega⟩
 case round =>
  obtain ⟨k,hk,rfl,hK,H⟩:=hrel
  by_cases hlt:k < n
  ·obtain ⟨l,hl1⟩:=bW (xs:=ls) (k:=k) (by rw [Hn.out];exact hlt)
   obtain ⟨b,off,a',cap',rfl,r0,r1,hle,hns⟩:=hs.at hl1
   have hlt':(k:Int) < (n:Int):=by omega
   have Hl:Hid (ls[k]?=some l):=hl1
   have lx:Hid (l.waits.length <= maxLen):=hle
   have N1:Hid (Ns w a' l.waits):=hns
   clear hs hl1 hle hns
   cases hq:hasB l.waits no
   ·go_wp2_with (go_at_call 147;refine (pM _ _ l.waits no _ lx.out (N1.out.keeps hK)).mono ?_;rintro e w1 ⟨rfl,k1⟩;rw [hq])
    exact ⟨⟨k+1,by omega,by go_num,hK.trans k1,fun j s hj hs=>by
     by_cases e:j=k
     ·subst e;rw [Hl.out] at hs;cases hs;exact hq
     ·exact H.out j s (by omega) hs⟩,by simp only [intOf];omega⟩
   ·have Hr:Hid (d8 ls no=k):=by
     show _=_
     unfold d8
     rw [tz Hl.out hq H.out]
    go_wp2_with (go_at_call 147;refine (pM _ _ l.waits no _ lx.out (N1.out.keeps hK)).mono ?_;rintro e w1 ⟨rfl,k1⟩;rw [hq])
    go_ret
    exact ⟨by rw [Hr.out];rfl,hK.trans k1⟩
  ·have Hr:Hid (d8 ls no = -1):=by
    show _=_
    unfold d8
    rw [tR fun j m hm=>H.out j m (by have:=da hm;rw [Hn.out] at this;omega) hm]
   go_wp2
   go_ret
   exact ⟨by rw [Hr.out];rfl,hK⟩
theorem wH (xs ys:List Int) (no:Int):eV (xs++ys) no=eV xs no+eV ys no:=by simp [eV]
theorem Cm (xs:List Int) (no:Int):eV xs no <= xs.length:=List.length_filter_le _ _
theorem Cn {xs:List Int} {k:Nat} {x no:Int} (h:xs[k]?=some x):eV (xs.take (k+1)) no=eV (xs.take k) no+(if x==no then 1 else 0):=by
 rw [List.take_add_one,h,wH]
 congr 1
 cases hx:(x==no) <;> simp [eV,hx]
theorem MG (xs ys:List Lk) (no:Int):ez (xs++ys) no=ez xs no+ez ys no:=by
 induction xs with
 | nil=>simp [ez]
 | cons x r ih=>simp only [List.cons_append,ez,ih];omega
theorem MH {ls:List Lk} {k:Nat} {l:Lk} (h:ls[k]?=some l) (no:Int):ez (ls.take (k+1)) no=ez (ls.take k) no+eV l.waits no:=by
 rw [List.take_add_one,h,MG]
 simp [ez]
theorem MI (ls:List Lk) (no:Int):ez ls no <= bC ls:=by
 induction ls with
 | nil=>simp [ez]
 | cons l r ih=>have:=Cm l.waits no;simp only [ez,bC];omega
set_option maxHeartbeats 2000000 in
theorem Co (a:Option Addr) (cap:Nat) (ls:List Lk) (no:Int) (w:World) (hl:bT ls <= 2097152) (hs:dU p w a ls) :
  Calls Tryz.prog 111 #[.slice a ls.length cap,.int .i64 no] w fun e w'=>e = .returned (.int .i64 (ez ls no)) /\ aa w w':=by
 have HL:Hid (bT ls <= 2097152):=hl
 have hl0:ls.length <= 2097152:=by unfold bT at hl;omega
 clear hl
 generalize hn:ls.length=n at hl0
 have Hn:Hid (ls.length=n):=hn
 clear hn
 go_enter Tryz.func111,Tryz.ntmps111
 go_wp2
 go_loopw [5,6] (fun c i wr=>∃ (k q:Nat),k <= n /\ i = .int .i64 k /\ c = .int .i64 q /\ Hid (ez (ls.take k) no=q) /\ q <= 2097152 /\ aa w wr) (fun _ i _=>n - (intOf i).toNat)
 case atStart=>exact ⟨0,0,Nat.zero_le _,rfl,rfl,by show _=_;simp [ez],by omega,aa.refl _⟩
 case round =>
  obtain ⟨k,q,hk,rfl,rfl,Hq,hq1,hK⟩:=hrel
  by_cases hlt:k < n
  ·obtain ⟨l,hl1⟩:=bW (xs:=ls) (k:=k) (by rw [Hn.out];exact hlt)
   obtain ⟨b,off,a',cap',rfl,r0,r1,hle,hns⟩:=hs.at hl1
   have hlt':(k:Int) < (n:Int):=by omega
   have Hl:Hid (ls[k]?=some l):=hl1
   have lx:Hid (l.waits.length <= maxLen):=hle
   have hw1:Hid (l.waits.length <= 2097152):=by show _ <= _;have:=lM hl1;have:=HL.out;unfold bT at this;omega
   have hw2:Hid (q+l.waits.length <= 2097152):=by
    show _ <= _
    have h1:=qp hl1
    have h2:=uv ls (k+1)
    have h3:=MI (ls.take k) no
    have h4:=HL.out
    rw [Hq.out] at h3
    unfold bT at h4
    omega
   clear hl1 hle
   obtain ⟨m,Hm⟩:∃ m:Nat,Hid (l.waits.length=m):=⟨_,rfl⟩
   have hm1:m <= 2097152:=by rw [<- Hm.out];exact hw1.out
   have hm2:q+m <= 2097152:=by rw [<- Hm.out];exact hw2.out
   rw [Hm.out] at r1
   go_wp2
   go_loopw [5,7] (fun c i wr=>∃ (j p:Nat),j <= m /\ i = .int .i64 j /\ c = .int .i64 p /\ Hid (q+eV (l.waits.take j) no=p) /\ p <= 2097152 /\ aa w wr) (fun _ i _=>m - (intOf i).toNat)
   case atStart=>exact ⟨0,q,Nat.zero_le _,rfl,rfl,by show _=_;simp [eV],hq1,hK⟩
   case round =>
    obtain ⟨j,p,hj,rfl,rfl,Hp,hp1,hK⟩:=hrel
    by_cases hlt2:j < m
    ·obtain ⟨x,hx⟩:=bW (xs:=l.waits) (k:=j) (by rw [Hm.out];exact hlt2)
     obtain ⟨b2,jN,rfl,x0⟩:=hns.at hx
     have hlt3:(j:Int) < (m:Int):=by omega
     have Hx:Hid (l.waits[j]?=some x):=hx
     have hp2:p < 2097152:=by
      have h1:=Cm (l.waits.take j) no
      have h2:(l.waits.take j).length <= j:=by simp;omega
      have h3:=Hp.out
      omega
     clear hns hx
     cases hq:(x==no)
     ·go_wp2
      refine ⟨⟨j+1,p,by omega,by go_num,rfl,?_,hp1,hK⟩,by simp only [intOf];omega⟩
      show _=_
      rw [Cn Hx.out,hq,<- Hp.out]
      simp
     ·go_wp2
      refine ⟨⟨j+1,p+1,by omega,by go_num,by go_num,?_,by omega,hK⟩,by simp only [intOf];omega⟩
      show _=_
      rw [Cn Hx.out,hq,<- Hp.out]
      simp
      omega
    ·have e:j=m:=by omega
     subst e
     go_wp2
     refine ⟨⟨k+1,p,by omega,by go_num,rfl,?_,hp1,hK⟩,by simp only [intOf];omega⟩
     show _=_
     rw [MH Hl.out,Hq.out,<- Hp.out,<- Hm.out,List.take_length]
  ·have e:k=n:=by omega
   subst e
   have Hr:Hid (ez ls no=q):=by show _=_;rw [<- Hq.out,<- Hn.out,List.take_length]
   go_wp2
   go_ret
   exact ⟨by rw [Hr.out];rfl,hK⟩
theorem MJ {ls:List Lk} {no:Int} {k:Nat} {l:Lk} (hl:ls[k]?=some l) (h0:(no != 0)=true) (h1:(l.owner==no)=true):kR ls no=true:=by
 unfold kR
 rw [List.any_eq_true]
 exact ⟨l,List.mem_of_getElem? hl,by rw [h0,h1];rfl⟩
theorem MK {ls:List Lk} {no:Int} (h:∀ (j:Nat) (l:Lk),ls[j]?=some l->(no != 0&&l.owner==no)=false):kR ls no=false:=by
 unfold kR
 rw [List.any_eq_false]
 intro l hl
 obtain ⟨j,hj,rfl⟩:=List.mem_iff_getElem.1 hl
 simpa using h j _ (List.getElem?_eq_getElem hj)
set_option maxHeartbeats 1000000 in
theorem MO (a:Option Addr) (cap:Nat) (ls:List Lk) (no:Int) (w:World) (hl:ls.length <= maxLen) (hs:dU p w a ls) :
  Calls Tryz.prog 148 #[.slice a ls.length cap,.int .i64 no] w fun e w'=>e = .returned (.bool (kR ls no)) /\ aa w w':=by
 unfold maxLen at hl
 generalize hn:ls.length=n at hl
 have Hn:Hid (ls.length=n):=hn
 clear hn
 go_enter Tryz.func148,Tryz.ntmps148
 go_wp2
 go_loopw [5] (fun i wr=>∃ k:Nat,k <= n /\ i = .int .i64 k /\ aa w wr /\ Hid (∀ (j:Nat) (l:Lk),j < k->ls[j]?=some l->(no != 0&&l.owner==no)=false)) (fun i _=>n - (intOf i).toNat)
 case atStart=>exact ⟨0,Nat.zero_le _,rfl,aa.refl _,fun j y hj=>by omega⟩
 case round =>
  obtain ⟨k,hk,rfl,hK,H⟩:=hrel
  by_cases hlt:k < n
  ·obtain ⟨l,hl1⟩:=bW (xs:=ls) (k:=k) (by rw [Hn.out];exact hlt)
   obtain ⟨b,off,a',cap',rfl,r0,r1,-,-⟩:=hs.at hl1
   have hlt':(k:Int) < (n:Int):=by omega
   have Hl:Hid (ls[k]?=some l):=hl1
   clear hs hl1
   cases h0:(no != 0)
   ·go_wp2
    exact ⟨⟨k+1,by omega,by go_num,hK,fun j s hj hs=>rfl⟩,by simp only [intOf];omega⟩
   ·cases hq:(l.owner==no)
    ·go_wp2
     exact ⟨⟨k+1,by omega,by go_num,hK,fun j s hj hs=>by
      by_cases e:j=k
      ·subst e;rw [Hl.out] at hs;cases hs;rw [hq];simp
      ·have:=H.out j s (by omega) hs;rw [h0] at this;exact this⟩,by simp only [intOf];omega⟩
    ·have Hr:Hid (kR ls no=true):=MJ Hl.out h0 hq
     go_wp2
     go_ret
     exact ⟨by rw [Hr.out];rfl,hK⟩
  ·have Hr:Hid (kR ls no=false):=MK fun j y hy=>H.out j y (by have:=da hy;rw [Hn.out] at this;omega) hy
   go_wp2
   go_ret
   exact ⟨by rw [Hr.out];rfl,hK⟩
end Go.Proofs.YteagpjlgjfaclaaGreatDoor
namespace Go.Proofs.YteagpjlgjfaclaaGreatDoor
set_option maxRecDepth 100000
open Go.RowKit
variable {p p':Bool}
attribute [local go_sem] aa.refl aa.alloc aa.drew aa.drewN
theorem z9 (ls:List Lk):∀ (f:Nat) (no:Int),(cO ls f no).1.length <= f+1
 | 0,no=>by simp [cO]
 | f+1,no=>by
  cases h:dj ls no with
  | none=>rw [pt h];simp
  | some i =>
   rw [pw h]
   have:=z9 ls f (d7 ls i)
   simp only [List.length_cons]
   omega
set_option maxHeartbeats 2000000 in
theorem tX (a:Option Addr) (cap:Nat) (ls:List Lk) (no:Int) (w:World) (hl:ls.length <= 2097152) (hs:dU p w a ls) :
  Calls Tryz.prog 110 #[.slice a ls.length cap,.int .i64 no] w fun e w'=>∃ v,e = .returned (.tuple #[v,.bool (cO ls (ls.length+1) no).2]) /\ aS w' w.heap.size v (cO ls (ls.length+1) no).1 /\ aa w w':=by
 have HS:Hid (dU p w a ls):=hs
 clear hs
 have Hl:Hid (ls.length <= maxLen):=by show _ <= _;unfold maxLen;omega
 generalize hn:ls.length=n at hl
 have Hn:Hid (ls.length=n):=hn
 clear hn
 obtain ⟨C,HC⟩:∃ C,Hid (cO ls (n+1) no=C):=⟨_,rfl⟩
 rw [HC.out]
 go_enter Tryz.func110,Tryz.ntmps110
 go_wp2
 have kz:Hid (aa w (w.alloc (.cells #[.int .i64 no] 3))):=(aa.refl _).alloc _
 have dQ:Hid (aS (w.alloc (.cells #[.int .i64 no] 3)) w.heap.size (.slice (some ⟨w.heap.size,0,none⟩) 1 1) ([]++[no])):=World.ownsRow_lit w #[.int .i64 no] 1 (Nat.le_refl _) (by unfold maxLen;omega) rfl
 generalize w.alloc (.cells #[.int .i64 no] 3)=W at *
 go_loopw [1,6,7] (fun c v i wr=>∃ (k:Nat) (done:List Int) (cur:Int),k <= n+1 /\ i = .int .i64 k /\ c = .int .i64 cur /\ done.length=k /\ Hid (aS wr w.heap.size v (done++[cur])) /\ aa w wr /\ Hid (C=(done++(cO ls (n+1 - k) cur).1,(cO ls (n+1 - k) cur).2))) (fun _ _ i _=>n+1 - (intOf i).toNat)
 case atStart=>exact ⟨0,[],no,Nat.zero_le _,rfl,rfl,rfl,dQ,kz.out,by show _=_;rw [<- HC.out];simp⟩
 case round =>
  obtain ⟨k,done,cur,hk,rfl,rfl,hd,own,hK,HI⟩:=hrel
  clear dQ kz
  by_cases hlt:k <= n
  ·have hlt':(k:Int) <= (n:Int):=by omega
   obtain ⟨f,Hf⟩:∃ f,Hid (n+1 - k=f+1):=⟨n - k,by show _=_;omega⟩
   have HI2:Hid (C=(done++(cO ls (f+1) cur).1,(cO ls (f+1) cur).2)):=by show _=_;rw [<- Hf.out];exact HI.out
   cases hx:dj ls cur with
   | none =>
    have Hw:Hid (d8 ls cur = -1):=by show _=_;unfold d8;rw [hx]
    have HR:Hid (C=(done++[cur],true)):=by show _=_;rw [HI2.out,pt hx]
    go_wp2_with (go_at_call 84;refine (by have:=tW a cap ls cur wr Hl.out (HS.out.keeps hK);rw [Hn.out,Hw.out] at this;exact this:Calls Tryz.prog 84 #[.slice a n cap,.int .i64 cur] wr fun e w'=>e = .returned (.int .i64 (-1)) /\ aa wr w').mono ?_;rintro e w1 ⟨rfl,k1⟩)
    go_ret2
    exact ⟨_,by rw [HR.out];rfl,by rw [HR.out];exact own.out.keeps k1,hK.trans k1⟩
   | some i =>
    obtain ⟨l,hl1,-,-⟩:=mX hx
    have Hw:Hid (d8 ls cur=(i:Int)):=by show _=_;unfold d8;rw [hx]
    have Hi:Hid (i < n):=by show _ < _;have:=da hl1;rw [Hn.out] at this;exact this
    have hi1:(i:Int) < (n:Int):=by have:=Hi.out;omega
    obtain ⟨b,off,a',cap',rfl,r0,r1,-,-⟩:=HS.out.at hl1
    have HR:Hid (C=((done++[cur])++(cO ls f l.owner).1,(cO ls f l.owner).2)):=by
     show _=_
     rw [HI2.out,pw hx,gO hl1]
     simp
    clear hl1 r1
    go_wp2_with (first
     | (go_at_call 84;refine (by have:=tW (some ⟨b,off,none⟩) cap ls cur wr Hl.out (HS.out.keeps hK);rw [Hn.out,Hw.out] at this;exact this:Calls Tryz.prog 84 #[.slice (some ⟨b,off,none⟩) n cap,.int .i64 cur] wr fun e w'=>e = .returned (.int .i64 (i:Int)) /\ aa wr w').mono ?_;rintro e w1 ⟨rfl,k1⟩;have kk:aa w w1:=hK.trans k1)
     | (at_builtin;(refine iE rfl _ _ 27 rfl w 3 (.int .i64 0) 1 8 ic Tryz.underlying27 (by kernel_rfl) rfl (by decide) fW lN _ (done++[cur]) rfl w1 (own.out.keeps k1) kk ((aa.refl _).alloc _) l.owner _ 1 (ai.new _ _ _) rfl ?c1 ?c2 ?_)))
    case c1=>simp only [List.length_append,List.length_singleton];unfold maxLen;omega
    case c2=>simp only [List.length_append,List.length_singleton];omega
    intro v' w5 cP k5 _
    have HO:Hid (aS w5 w.heap.size v' (done++[cur]++[l.owner])):=by show aS _ _ _ _;simpa using cP
    clear cP own
    go_wp2
    refine ⟨⟨k+1,done++[cur],l.owner,by omega,by go_num,rfl,by simp [hd],HO,k5,?_⟩,by simp only [intOf];omega⟩
    show _=_
    rw [HR.out,show n+1 - (k+1)=f from by have:=Hf.out;omega]
  ·have e:k=n+1:=by omega
   have HR:Hid (C=(done++[cur],false)):=by show _=_;rw [HI.out,e,Nat.sub_self];rfl
   have hlt':((n:Int) < (k:Int)):=by omega
   go_wp2
   go_ret2
   exact ⟨_,by rw [HR.out];rfl,by rw [HR.out];exact own.out,hK⟩
theorem MP {ls:List Lk} (h:5 < ls.length):dm ls=false:=by
 unfold dm
 rw [decide_eq_false (by omega)];rfl
theorem MQ {ls:List Lk} (h:ls.length <= 5) (H:∀ (j:Nat) (l:Lk),ls[j]?=some l->iY ls l=true):dm ls=true:=by
 unfold dm
 rw [decide_eq_true h,Bool.true_and,List.all_eq_true]
 intro l hl
 obtain ⟨j,hj,rfl⟩:=List.mem_iff_getElem.1 hl
 exact H j _ (List.getElem?_eq_getElem hj)
theorem MR {ls:List Lk} (h:dm ls=true) {j:Nat} {l:Lk} (hl:ls[j]?=some l):iY ls l=true:=by
 unfold dm at h
 simp only [Bool.and_eq_true,List.all_eq_true] at h
 exact h.2 l (List.mem_of_getElem? hl)
theorem nJ {ls:List Lk} {j:Nat} {l:Lk} (hl:ls[j]?=some l) (h:iY ls l=false):dm ls=false:=by
 cases hb:dm ls
 ·rfl
 ·rw [MR hb hl] at h;cases h
theorem p9 {ls:List Lk} {l:Lk} {j:Nat} {x:Int} (hx:l.waits[j]?=some x) (h:ju ls x=false):iY ls l=false:=by
 unfold iY
 have:l.waits.all (ju ls)=false:=by
  rw [List.all_eq_false]
  exact ⟨x,List.mem_of_getElem? hx,by rw [h];simp⟩
 rw [this];simp
theorem Cp {ls:List Lk} {l:Lk} (h0:aF l.owner 0 1000=true) (h1:(l.owner==0&&decide (0 < l.waits.length))=false) (H:∀ (j:Nat) (x:Int),l.waits[j]?=some x->ju ls x=true):iY ls l=true:=by
 unfold iY
 rw [h0,h1,Bool.true_and,Bool.not_false,Bool.true_and,List.all_eq_true]
 intro x hx
 obtain ⟨j,hj,rfl⟩:=List.mem_iff_getElem.1 hx
 exact H j _ (List.getElem?_eq_getElem hj)
set_option maxHeartbeats 4000000 in
theorem tY (a:Option Addr) (cap:Nat) (ls:List Lk) (w:World) (hl:bT ls <= 2097152) (hs:dU p w a ls) :
  Calls Tryz.prog 70 #[.slice a ls.length cap] w fun e w'=>e = .returned (.bool (dm ls)) /\ aa w w':=by
 have HL:Hid (bT ls <= 2097152):=hl
 have hl0:ls.length <= 2097152:=by unfold bT at hl;omega
 clear hl
 have HS:Hid (dU p w a ls):=hs
 clear hs
 generalize hn:ls.length=n at hl0
 have Hn:Hid (ls.length=n):=hn
 clear hn
 by_cases h5:5 < n
 ·have h5':(5:Int) < (n:Int):=by omega
  have Hr:Hid (dm ls=false):=MP (by rw [Hn.out];exact h5)
  go_enter Tryz.func70,Tryz.ntmps70
  go_wp2
  go_ret
  exact ⟨by rw [Hr.out];rfl,aa.refl _⟩
 have h5':(n:Int) <= (5:Int):=by omega
 go_enter Tryz.func70,Tryz.ntmps70
 go_wp2
 go_loopw [3] (fun i wr=>∃ k:Nat,k <= n /\ i = .int .i64 k /\ aa w wr /\ Hid (∀ (j:Nat) (l:Lk),j < k->ls[j]?=some l->iY ls l=true)) (fun i _=>n - (intOf i).toNat)
 case atStart=>exact ⟨0,Nat.zero_le _,rfl,aa.refl _,fun j y hj=>by omega⟩
 case round =>
  obtain ⟨k,hk,rfl,hK,H⟩:=hrel
  by_cases hlt:k < n
  ·obtain ⟨l,hl1⟩:=bW (xs:=ls) (k:=k) (by rw [Hn.out];exact hlt)
   obtain ⟨b,off,a',cap',rfl,r0,r1,hle,hns⟩:=HS.out.at hl1
   have hlt':(k:Int) < (n:Int):=by omega
   have Hl:Hid (ls[k]?=some l):=hl1
   have hw1:Hid (l.waits.length <= 2097152):=by show _ <= _;have:=lM hl1;have:=HL.out;unfold bT at this;omega
   clear hl1 hle
   obtain ⟨m,Hm⟩:∃ m:Nat,Hid (l.waits.length=m):=⟨_,rfl⟩
   have hm1:m <= 2097152:=by rw [<- Hm.out];exact hw1.out
   rw [Hm.out] at r1
   cases c1:aF l.owner 0 1000
   ·have Hr:Hid (dm ls=false):=nJ Hl.out (by unfold iY;rw [c1];rfl)
    go_wp2_with (go_at_call 27;refine (bn _ _ _ _).mono ?_;rintro e w' ⟨rfl,hw'⟩;have hw2:=hw'.symm;subst hw2)
    go_ret
    exact ⟨by rw [Hr.out];rfl,hK⟩
   have key:(l.owner==0&&decide (0 < m))=true∨(l.owner==0&&decide (0 < m))=false:=by cases (l.owner==0&&decide (0 < m)) <;> simp
   rcases key with c2 | c2
   ·have Hr:Hid (dm ls=false):=nJ Hl.out (by unfold iY;rw [Hm.out,c2];simp)
    obtain ⟨c3,c4⟩:=Bool.and_eq_true_iff.1 c2
    have c5:(0:Int) < (m:Int):=by simpa using c4
    go_wp2_with (go_at_call 27;refine (bn _ _ _ _).mono ?_;rintro e w' ⟨rfl,hw'⟩;have hw2:=hw'.symm;subst hw2)
    go_ret
    exact ⟨by rw [Hr.out];rfl,hK⟩
   ·have C2:Hid ((l.owner==0&&decide (0 < l.waits.length))=false):=by show _=_;rw [Hm.out];exact c2
    have C1:Hid (aF l.owner 0 1000=true):=c1
    have mQ:(l.owner==0)=false∨((l.owner==0)=true /\ decide (0 < m)=false):=by
     cases h:(l.owner==0)
     ·exact .inl rfl
     ·rw [h,Bool.true_and] at c2
      exact .inr ⟨rfl,c2⟩
    clear c2
    rcases mQ with c3 | ⟨c3,nK⟩
    ·go_wp2_with (go_at_call 27;refine (bn _ _ _ _).mono ?_;rintro e w' ⟨rfl,hw'⟩;have hw2:=hw'.symm;subst hw2)
     go_loopw [4] (fun i wr=>∃ j:Nat,j <= m /\ i = .int .i64 j /\ aa w wr /\ Hid (∀ (t:Nat) (x:Int),t < j->l.waits[t]?=some x->ju ls x=true)) (fun i _=>m - (intOf i).toNat)
     case atStart=>exact ⟨0,Nat.zero_le _,rfl,hK,fun j y hj=>by omega⟩
     case round =>
      obtain ⟨j,hj,rfl,hK2,HW⟩:=hrel
      by_cases hlt2:j < m
      ·obtain ⟨x,hx⟩:=bW (xs:=l.waits) (k:=j) (by rw [Hm.out];exact hlt2)
       obtain ⟨b2,jN,rfl,x0⟩:=hns.at hx
       have hlt3:(j:Int) < (m:Int):=by omega
       have Hx:Hid (l.waits[j]?=some x):=hx
       obtain ⟨q,Hq⟩:∃ q:Nat,Hid (ez ls x=q):=⟨_,rfl⟩
       obtain ⟨g,Hg⟩:∃ g:Bool,Hid ((cO ls (n+1) x).2=g):=⟨_,rfl⟩
       have CH:Hid (∀ w',aa w w'->Calls Tryz.prog 110 #[.slice (some ⟨b,off,none⟩) n cap,.int .i64 x] w' fun e w''=>∃ v,e = .returned (.tuple #[v,.bool g]) /\ aa w' w''):=by
        intro w' h
        have:=tX (some ⟨b,off,none⟩) cap ls x w' (by rw [Hn.out];exact hl0) (HS.out.keeps h)
        rw [Hn.out,Hg.out] at this
        exact this.mono fun e w'' ⟨v,h1,_,h2⟩=>⟨v,h1,h2⟩
       have WS:Hid (∀ w',aa w w'->Calls Tryz.prog 111 #[.slice (some ⟨b,off,none⟩) n cap,.int .i64 x] w' fun e w''=>e = .returned (.int .i64 (q:Int)) /\ aa w' w''):=by
        intro w' h
        have:=Co (some ⟨b,off,none⟩) cap ls x w' HL.out (HS.out.keeps h)
        rw [Hn.out,Hq.out] at this
        exact this
       have HB:Hid (ju ls x=(g&&(aF x 1 1000&&q==1))):=by show _=_;unfold ju;rw [Hn.out,Hg.out,Hq.out]
       clear hns hx
       cases c4:aF x 1 1000
       ·have Hr:Hid (dm ls=false):=nJ Hl.out (p9 Hx.out (by rw [HB.out,c4];simp))
        go_wp2_with (first
         | (go_at_call 27;refine (bn _ _ _ _).mono ?_;rintro e w' ⟨rfl,hw'⟩;have hw2:=hw'.symm;subst hw2)
         | (go_at_call 110;refine (CH.out _ hK2).mono ?_;rintro e w1 ⟨v1,rfl,k1⟩;have gq:aa w w1:=hK2.trans k1)
         | (go_at_call 111;refine (WS.out _ gq).mono ?_;rintro e w2 ⟨rfl,k2⟩;have j8:aa w w2:=gq.trans k2))
        go_ret
        exact ⟨by rw [Hr.out];rfl,gq⟩
       ·cases c5:((q:Int) != 1)
        ·have hq1:(q==1)=true:=by simp at c5;simp;omega
         cases c6:g
         ·have Hr:Hid (dm ls=false):=nJ Hl.out (p9 Hx.out (by rw [HB.out,c6];simp))
          rw [c6] at CH
          go_wp2_with (first
           | (go_at_call 27;refine (bn _ _ _ _).mono ?_;rintro e w' ⟨rfl,hw'⟩;have hw2:=hw'.symm;subst hw2)
           | (go_at_call 110;refine (CH.out _ hK2).mono ?_;rintro e w1 ⟨v1,rfl,k1⟩;have gq:aa w w1:=hK2.trans k1)
           | (go_at_call 111;refine (WS.out _ gq).mono ?_;rintro e w2 ⟨rfl,k2⟩;have j8:aa w w2:=gq.trans k2))
          go_ret
          exact ⟨by rw [Hr.out];rfl,j8⟩
         ·have Hr:Hid (ju ls x=true):=by show _=_;rw [HB.out,c6,c4,hq1];rfl
          rw [c6] at CH
          go_wp2_with (first
           | (go_at_call 27;refine (bn _ _ _ _).mono ?_;rintro e w' ⟨rfl,hw'⟩;have hw2:=hw'.symm;subst hw2)
           | (go_at_call 110;refine (CH.out _ hK2).mono ?_;rintro e w1 ⟨v1,rfl,k1⟩;have gq:aa w w1:=hK2.trans k1)
           | (go_at_call 111;refine (WS.out _ gq).mono ?_;rintro e w2 ⟨rfl,k2⟩;have j8:aa w w2:=gq.trans k2))
          exact ⟨⟨j+1,by omega,by go_num,j8,fun t y ht hy=>by
           by_cases e:t=j
           ·subst e;rw [Hx.out] at hy;cases hy;exact Hr.out
           ·exact HW.out t y (by omega) hy⟩,by simp only [intOf];omega⟩
        ·have hq1:(q==1)=false:=by simp at c5;simp;omega
         have Hr:Hid (dm ls=false):=nJ Hl.out (p9 Hx.out (by rw [HB.out,hq1];simp))
         go_wp2_with (first
          | (go_at_call 27;refine (bn _ _ _ _).mono ?_;rintro e w' ⟨rfl,hw'⟩;have hw2:=hw'.symm;subst hw2)
          | (go_at_call 110;refine (CH.out _ hK2).mono ?_;rintro e w1 ⟨v1,rfl,k1⟩;have gq:aa w w1:=hK2.trans k1)
          | (go_at_call 111;refine (WS.out _ gq).mono ?_;rintro e w2 ⟨rfl,k2⟩;have j8:aa w w2:=gq.trans k2))
         go_ret
         exact ⟨by rw [Hr.out];rfl,j8⟩
      ·have e:j=m:=by omega
       subst e
       have Hk:Hid (iY ls l=true):=Cp C1.out C2.out fun t x hx=>HW.out t x (by have:=da hx;rw [Hm.out] at this;exact this) hx
       go_wp2
       exact ⟨⟨k+1,by omega,by go_num,hK2,fun t y ht hy=>by
        by_cases e:t=k
        ·subst e;rw [Hl.out] at hy;cases hy;exact Hk.out
        ·exact H.out t y (by omega) hy⟩,by simp only [intOf];omega⟩
    ·go_wp2_with (go_at_call 27;refine (bn _ _ _ _).mono ?_;rintro e w' ⟨rfl,hw'⟩;have hw2:=hw'.symm;subst hw2)
     go_loopw [4] (fun i wr=>∃ j:Nat,j <= m /\ i = .int .i64 j /\ aa w wr /\ Hid (∀ (t:Nat) (x:Int),t < j->l.waits[t]?=some x->ju ls x=true)) (fun i _=>m - (intOf i).toNat)
     case atStart=>exact ⟨0,Nat.zero_le _,rfl,hK,fun j y hj=>by omega⟩
     case round =>
      obtain ⟨j,hj,rfl,hK2,HW⟩:=hrel
      by_cases hlt2:j < m
      ·obtain ⟨x,hx⟩:=bW (xs:=l.waits) (k:=j) (by rw [Hm.out];exact hlt2)
       obtain ⟨b2,jN,rfl,x0⟩:=hns.at hx
       have hlt3:(j:Int) < (m:Int):=by omega
       have Hx:Hid (l.waits[j]?=some x):=hx
       obtain ⟨q,Hq⟩:∃ q:Nat,Hid (ez ls x=q):=⟨_,rfl⟩
       obtain ⟨g,Hg⟩:∃ g:Bool,Hid ((cO ls (n+1) x).2=g):=⟨_,rfl⟩
       have CH:Hid (∀ w',aa w w'->Calls Tryz.prog 110 #[.slice (some ⟨b,off,none⟩) n cap,.int .i64 x] w' fun e w''=>∃ v,e = .returned (.tuple #[v,.bool g]) /\ aa w' w''):=by
        intro w' h
        have:=tX (some ⟨b,off,none⟩) cap ls x w' (by rw [Hn.out];exact hl0) (HS.out.keeps h)
        rw [Hn.out,Hg.out] at this
        exact this.mono fun e w'' ⟨v,h1,_,h2⟩=>⟨v,h1,h2⟩
       have WS:Hid (∀ w',aa w w'->Calls Tryz.prog 111 #[.slice (some ⟨b,off,none⟩) n cap,.int .i64 x] w' fun e w''=>e = .returned (.int .i64 (q:Int)) /\ aa w' w''):=by
        intro w' h
        have:=Co (some ⟨b,off,none⟩) cap ls x w' HL.out (HS.out.keeps h)
        rw [Hn.out,Hq.out] at this
        exact this
       have HB:Hid (ju ls x=(g&&(aF x 1 1000&&q==1))):=by show _=_;unfold ju;rw [Hn.out,Hg.out,Hq.out]
       clear hns hx
       cases c4:aF x 1 1000
       ·have Hr:Hid (dm ls=false):=nJ Hl.out (p9 Hx.out (by rw [HB.out,c4];simp))
        go_wp2_with (first
         | (go_at_call 27;refine (bn _ _ _ _).mono ?_;rintro e w' ⟨rfl,hw'⟩;have hw2:=hw'.symm;subst hw2)
         | (go_at_call 110;refine (CH.out _ hK2).mono ?_;rintro e w1 ⟨v1,rfl,k1⟩;have gq:aa w w1:=hK2.trans k1)
         | (go_at_call 111;refine (WS.out _ gq).mono ?_;rintro e w2 ⟨rfl,k2⟩;have j8:aa w w2:=gq.trans k2))
        go_ret
        exact ⟨by rw [Hr.out];rfl,gq⟩
       ·cases c5:((q:Int) != 1)
        ·have hq1:(q==1)=true:=by simp at c5;simp;omega
         cases c6:g
         ·have Hr:Hid (dm ls=false):=nJ Hl.out (p9 Hx.out (by rw [HB.out,c6];simp))
          rw [c6] at CH
          go_wp2_with (first
           | (go_at_call 27;refine (bn _ _ _ _).mono ?_;rintro e w' ⟨rfl,hw'⟩;have hw2:=hw'.symm;subst hw2)
           | (go_at_call 110;refine (CH.out _ hK2).mono ?_;rintro e w1 ⟨v1,rfl,k1⟩;have gq:aa w w1:=hK2.trans k1)
           | (go_at_call 111;refine (WS.out _ gq).mono ?_;rintro e w2 ⟨rfl,k2⟩;have j8:aa w w2:=gq.trans k2))
          go_ret
          exact ⟨by rw [Hr.out];rfl,j8⟩
         ·have Hr:Hid (ju ls x=true):=by show _=_;rw [HB.out,c6,c4,hq1];rfl
          rw [c6] at CH
          go_wp2_with (first
           | (go_at_call 27;refine (bn _ _ _ _).mono ?_;rintro e w' ⟨rfl,hw'⟩;have hw2:=hw'.symm;subst hw2)
           | (go_at_call 110;refine (CH.out _ hK2).mono ?_;rintro e w1 ⟨v1,rfl,k1⟩;have gq:aa w w1:=hK2.trans k1)
           | (go_at_call 111;refine (WS.out _ gq).mono ?_;rintro e w2 ⟨rfl,k2⟩;have j8:aa w w2:=gq.trans k2))
          exact ⟨⟨j+1,by omega,by go_num,j8,fun t y ht hy=>by
           by_cases e:t=j
           ·subst e;rw [Hx.out] at hy;cases hy;exact Hr.out
           ·exact HW.out t y (by omega) hy⟩,by simp only [intOf];omega⟩
        ·have hq1:(q==1)=false:=by simp at c5;simp;omega
         have Hr:Hid (dm ls=false):=nJ Hl.out (p9 Hx.out (by rw [HB.out,hq1];simp))
         go_wp2_with (first
          | (go_at_call 27;refine (bn _ _ _ _).mono ?_;rintro e w' ⟨rfl,hw'⟩;have hw2:=hw'.symm;subst hw2)
          | (go_at_call 110;refine (CH.out _ hK2).mono ?_;rintro e w1 ⟨v1,rfl,k1⟩;have gq:aa w w1:=hK2.trans k1)
          | (go_at_call 111;refine (WS.out _ gq).mono ?_;rintro e w2 ⟨rfl,k2⟩;have j8:aa w w2:=gq.trans k2))
         go_ret
         exact ⟨by rw [Hr.out];rfl,j8⟩
      ·have e:j=m:=by omega
       subst e
       have Hk:Hid (iY ls l=true):=Cp C1.out C2.out fun t x hx=>HW.out t x (by have:=da hx;rw [Hm.out] at this;exact this) hx
       go_wp2
       exact ⟨⟨k+1,by omega,by go_num,hK2,fun t y ht hy=>by
        by_cases e:t=k
        ·subst e;rw [Hl.out] at hy;cases hy;exact Hk.out
        ·exact H.out t y (by omega) hy⟩,by simp only [intOf];omega⟩
  ·have e:k=n:=by omega
   subst e
   have Hr:Hid (dm ls=true):=MQ (by rw [Hn.out];omega) fun j l hl=>H.out j l (by have:=da hl;rw [Hn.out] at this;exact this) hl
   go_wp2
   go_ret
   exact ⟨by rw [Hr.out];rfl,hK⟩
end Go.Proofs.YteagpjlgjfaclaaGreatDoor
namespace Go.Proofs.YteagpjlgjfaclaaGreatDoor
set_option maxRecDepth 100000
open Go.RowKit
section
variable {P:Program} {ops:Array Oper} {Q:Exit->Act->World->Prop} {md:Region.Mode} {S:World->Prop} {L:Nat}
def jH (P:Program) (md:Region.Mode) (ops:Array Oper) (Q:Exit->Act->World->Prop) (S:World->Prop) (L:Nat):Nat->Array Bool->Act->World->Prop
 | 0,listed,a,w=>Region.ready md ops listed=[] /\ Q .normal a w
 | n+1,listed,a,w=>(Region.ready md ops listed=[]->Q .normal a w) /\ ∀ i∈Region.ready md ops listed,wpOp P ops Q i (fun a' w'=>((listed.setIfInBounds i true).getD L true=false->S w') /\ jH P md ops Q S L n (listed.setIfInBounds i true) a' w') a w
theorem Cq:∀ (n:Nat) (listed:Array Bool) (a:Act) (w:World),jH P md ops Q S L n listed a w->wpAny P md ops Q n listed a w
 | 0,_,_,_,h=>h
 | n+1,_,_,_,h=>⟨h.1,fun i hi=>wpOp_mono (fun a' w' h'=>Cq n _ a' w' h'.2) (h.2 i hi)⟩
theorem wI {T:World->Prop} {i:Nat} {oi:Oper} {v:Value} (wJ:i≠L) (hi:ops[i]?=some oi) (hsel:∀ (j:Nat) (o:Oper) cs b,ops[j]?=some o->o.op ≠ .select cs b) (hL:(∀ w,T w)∨(T=S /\ qc2 md ops L i=true))
  (hQ:∀ c a w,Q (.panic c) (a.put oi.dst v) w->Q (.panic c) a w) :
  ∀ (n:Nat) (listed:Array Bool) (a:Act) (w:World),(∀ j oj,ops[j]?=some oj->j≠i->listed.getD j true=false->(∀ e∈oj.after,Region.binds md e=true->e.on≠i)->oi.apart ops oj=true) ->
   i∈Region.ready md ops listed->YieldsIf P ops T oi v a->(listed.getD L true=false->S w)->((∀ w,T w)∨listed.getD L true=false)->jH P md ops Q S L n (listed.setIfInBounds i true) (a.put oi.dst v) w->jH P md ops Q S L (n+1) listed a w
 | n,listed,a,w,hfree,hr,hy,hS,hN,H=>by
  have hT:T w:=by
   rcases hL with h | ⟨h,-⟩
   ·exact h w
   ·rcases hN with h2 | h2
    ·exact h2 w
    ·rw [h];exact hS h2
  have MS:(listed.setIfInBounds i true).getD L true=false->S w:=fun e=>hS (by rw [getD_set_ne true wJ] at e;exact e)
  refine ⟨fun h=>(by rw [h] at hr;cases hr),fun j hj => ?_⟩
  by_cases hji:j=i
  ·subst hji;exact hy.wpOp hi hT ⟨MS,H⟩
  ·cases n with
   | zero =>
    have:=ready_mono hj hji
    rw [H.1] at this
    cases this
   | succ n =>
    have h1:=H.2 j (ready_mono hj hji)
    obtain ⟨hjun,oj,hoj,hall⟩:=mem_ready.1 hj
    have hnot:∀ e∈oj.after,Region.binds md e=true->e.on≠i:=fun e he hb heq=>by
     have h1:=hall e he hb
     have h0:=(mem_ready.1 hr).1
     rw [heq] at h1
     rcases Nat.lt_or_ge i listed.size with h' | h'
     ·simp [h'] at h0 h1;rw [h0] at h1;cases h1
     ·simp [Array.getElem?_eq_none h'] at h1
    have h2:=wpOp_putIf hoj (hfree j oj hoj hji hjun hnot) (fun cs b=>hsel i oi cs b hi) (fun cs b=>hsel j oj cs b hoj) hQ hy h1
    have hfree':∀ k ok,ops[k]?=some ok->k≠i->(listed.setIfInBounds j true).getD k true=false->(∀ e∈ok.after,Region.binds md e=true->e.on≠i)->oi.apart ops ok=true:=fun k ok hk hki hun hno=>by
     refine hfree k ok hk hki ?_ hno
     by_cases hjk:j=k
     ·subst hjk;exact hjun
     ·rw [getD_set_ne true hjk] at hun;exact hun
    have hN':(∀ w,T w)∨(listed.setIfInBounds j true).getD L true=false:=by
     rcases hN with h | h
     ·exact .inl h
     ·rcases hL with h3 | ⟨-,h3⟩
      ·exact .inl h3
      ·have rW:j≠L:=fun e=>wa h3 hr (e ▸ hj)
       exact .inr (by rw [getD_set_ne true rW];exact h)
    refine wpOp_mono (fun a' w' h3 => ?_) h2
    have hS':(listed.setIfInBounds j true).getD L true=false->S w':=fun e=>h3.2.1 (by rw [Array.setIfInBounds_comm _ _ (Ne.symm hji),getD_set_ne true wJ];exact e)
    refine ⟨hS',wI wJ hi hsel hL hQ n (listed.setIfInBounds j true) a' w' hfree' (ready_mono hr (Ne.symm hji)) h3.1 hS' hN' ?_⟩
    rw [Array.setIfInBounds_comm _ _ hji]
    exact h3.2.2
theorem MT {i:Nat} {oi:Oper} {v:Value} {n:Nat} {listed:Array Bool} {a:Act} {w:World} (hi:ops[i]?=some oi)
  (hs:Region.noSelect ops=true) (hf:Region.free md ops listed i=true) (hr:(Region.ready md ops listed).contains i=true) (hL:(qc2 md ops L i&&i != L && !listed.getD L true)=true)
  (hQ:∀ c a w,Q (.panic c) (a.put oi.dst v) w->Q (.panic c) a w) (hy:YieldsIf P ops S oi v a) (hS:S w)
  (h:jH P md ops Q S L n (listed.setIfInBounds i true) (a.put oi.dst v) w):jH P md ops Q S L (n+1) listed a w:=by
 simp only [Bool.and_eq_true,bne_iff_ne,ne_eq,Bool.not_eq_true'] at hL
 exact wI hL.1.2 hi (Region.noSelect_spec hs) (.inr ⟨rfl,hL.1.1⟩) hQ n listed a w (Region.free_spec hi hf) (by simpa using hr) hy (fun _=>hS) (.inr hL.2) h
theorem nV {i:Nat} {R:List Nat} {oi:Oper} {v:Value} {n:Nat} {listed:Array Bool} {a:Act} {w:World} (hi:ops[i]?=some oi:=by simp only [jF];rfl)
  (hb:(Region.noSelect ops&&Region.free md ops listed i&&(Region.ready md ops listed).contains i&&(qc2 md ops L i&&i != L && !listed.getD L true))=true:=by kernel_rfl) (hQ:∀ c a w,Q (.panic c) (a.put oi.dst v) w->Q (.panic c) a w:=by exact fun _ _ _ h=>h) (hg:Region.wanted oi (yielded ops a.tmps)=true:=by rfl) (hS:S w:=by assumption)
  (hy:∀ w,S w->(execOp a.eval oi).run P w = .ok (.value v) w:=by intro w _;go_simp;try (with_reducible rfl)) (h:ad R (jH P md ops Q S L n (listed.setIfInBounds i true) (a.put oi.dst v) w)):ad (i::R) (jH P md ops Q S L (n+1) listed a w):=by
 rw [Bool.and_eq_true] at hb
 obtain ⟨h1,h2⟩:=hb
 simp only [Bool.and_eq_true] at h1
 exact MT hi h1.1.1 h1.1.2 h1.2 h2 hQ (Or.inl ⟨hg,hy⟩) hS h
theorem FW {i:Nat} {oi:Oper} {v:Value} {n:Nat} {listed:Array Bool} {a:Act} {w:World} (hi:ops[i]?=some oi)
  (hs:Region.noSelect ops=true) (hf:Region.free md ops listed i=true) (hr:(Region.ready md ops listed).contains i=true) (hL:(i != L)=true)
  (hQ:∀ c a w,Q (.panic c) (a.put oi.dst v) w->Q (.panic c) a w) (hy:YieldsIf P ops (fun _=>True) oi v a) (hS:S w)
  (h:jH P md ops Q S L n (listed.setIfInBounds i true) (a.put oi.dst v) w):jH P md ops Q S L (n+1) listed a w :=
 wI (T:=fun _=>True) (by simpa using hL) hi (Region.noSelect_spec hs) (.inl fun _=>trivial) hQ n listed a w (Region.free_spec hi hf) (by simpa using hr) hy (fun _=>hS) (.inl fun _=>trivial) h
theorem ze {i:Nat} {o:Oper} {n:Nat} {listed:Array Bool} {a:Act} {w:World} (hr:Region.ready md ops listed=[i]:=by kernel_rfl) (ho:ops[i]?=some o:=by simp only [jF];rfl)
  (h:∀ K':Act->World->Prop,Shut (∀ a w,S w->(S w->jH P md ops Q S L n (listed.setIfInBounds i true) a w)->K' a w)->if Region.wanted o (yielded ops a.tmps)=true then Oper.wp P o a w K' Q else K' (a.put o.dst undef) w):jH P md ops Q S L (n+1) listed a w:=by
 refine ⟨fun e=>absurd (hr ▸ e) (by simp),fun j hj => ?_⟩
 rw [hr] at hj
 obtain rfl:j=i:=by simpa using hj
 exact wpOp_step ho (fun K' hK=>h K' (fun a w hS hW=>hK a w ⟨fun _=>hS,hW hS⟩))
theorem FX {o:Oper} {n:Nat} {listed:Array Bool} {a:Act} {w:World} (hr:Region.ready md ops listed=[L]:=by kernel_rfl) (ho:ops[L]?=some o:=by simp only [jF];rfl) (hd:Region.ready md ops (listed.setIfInBounds L true)=[]:=by kernel_rfl)
  (h:∀ K':Act->World->Prop,Shut (∀ a w,Q .normal a w->K' a w)->if Region.wanted o (yielded ops a.tmps)=true then Oper.wp P o a w K' Q else K' (a.put o.dst undef) w):jH P md ops Q S L (n+1) listed a w:=by
 refine ⟨fun e=>absurd (hr ▸ e) (by simp),fun j hj => ?_⟩
 rw [hr] at hj
 obtain rfl:j=L:=by simpa using hj
 refine wpOp_step ho (fun K' hK=>h K' (fun a w hW=>hK a w ⟨fun e => ?_,?_⟩))
 ·exfalso
  by_cases hlt:j < listed.size
  ·simp [hlt] at e
  ·simp [hlt] at e
 ·cases n with
  | zero=>exact ⟨hd,hW⟩
  | succ n=>exact ⟨fun _=>hW,by rw [hd];simp⟩
theorem FV (L:Nat) {id:Nat} {a:Act} {w:World} (hm:P.follows .mixedOrders=true) (hS:S w.drew)
  (h:S w.drew->jH P .any ops Q S L ops.size (Array.replicate ops.size false) a w.drew):(Code.region id ops true).wp P Q a w :=
 wp_region_any hm (Cq _ _ _ _ (h hS))
end
end Go.Proofs.YteagpjlgjfaclaaGreatDoor
namespace Go.Proofs.YteagpjlgjfaclaaGreatDoor
set_option maxRecDepth 100000
open Go.RowKit
theorem Cr (d:Nat) (w:World) (a b:ag):(Op.equalIn (d+2) 43 (tk a) (tk b)).run Tryz.prog w = .ok (gA a b) w:=by
 obtain ⟨a0,a1,a2,a3,a4,a5,a6,a7,a8,a9,Cs,Ct,a12,Bz⟩:=a
 obtain ⟨b0,b1,b2,b3,b4,b5,b6,b7,b8,b9,b10,b11,b12,b13⟩:=b
 simp only [gA]
 rw [run_equalIn_agg _ _ _ _ _ (by kernel_rfl) (by kernel_rfl)]
 go_simp
 by_cases h0:a0=b0
 case neg=>simp only [if_neg h0,beq_eq_false_iff_ne.2 h0,Bool.false_and]
 simp only [if_pos h0,beq_iff_eq.2 h0,Bool.true_and]
 by_cases h1:a1=b1
 case neg=>simp only [if_neg h1,beq_eq_false_iff_ne.2 h1,Bool.false_and]
 simp only [if_pos h1,beq_iff_eq.2 h1,Bool.true_and]
 by_cases h2:a2=b2
 case neg=>simp only [if_neg h2,beq_eq_false_iff_ne.2 h2,Bool.false_and]
 simp only [if_pos h2,beq_iff_eq.2 h2,Bool.true_and]
 by_cases h3:a3=b3
 case neg=>simp only [if_neg h3,beq_eq_false_iff_ne.2 h3,Bool.false_and]
 simp only [if_pos h3,beq_iff_eq.2 h3,Bool.true_and]
 by_cases h4:a4=b4
 case neg=>simp only [if_neg h4,beq_eq_false_iff_ne.2 h4,Bool.false_and]
 simp only [if_pos h4,beq_iff_eq.2 h4,Bool.true_and]
 by_cases h5:a5=b5
 case neg=>simp only [if_neg h5,beq_eq_false_iff_ne.2 h5,Bool.false_and]
 simp only [if_pos h5,beq_iff_eq.2 h5,Bool.true_and]
 by_cases h6:a6=b6
 case neg=>simp only [if_neg h6,beq_eq_false_iff_ne.2 h6,Bool.false_and]
 simp only [if_pos h6,beq_iff_eq.2 h6,Bool.true_and]
 by_cases h7:a7=b7
 case neg=>simp only [if_neg h7,beq_eq_false_iff_ne.2 h7,Bool.false_and]
 simp only [if_pos h7,beq_iff_eq.2 h7,Bool.true_and]
 by_cases h8:a8=b8
 case neg=>simp only [if_neg h8,beq_eq_false_iff_ne.2 h8,Bool.false_and]
 simp only [if_pos h8,beq_iff_eq.2 h8,Bool.true_and]
 by_cases h9:a9=b9
 case neg=>simp only [if_neg h9,beq_eq_false_iff_ne.2 h9,Bool.false_and]
 simp only [if_pos h9,beq_iff_eq.2 h9,Bool.true_and]
 by_cases h10:Cs=b10
 case neg=>simp only [if_neg h10,beq_eq_false_iff_ne.2 h10,Bool.false_and]
 simp only [if_pos h10,beq_iff_eq.2 h10,Bool.true_and]
 by_cases h11:Ct=b11
 case neg=>simp only [if_neg h11,beq_eq_false_iff_ne.2 h11,Bool.false_and]
 simp only [if_pos h11,beq_iff_eq.2 h11,Bool.true_and]
 by_cases h12:a12=b12
 case neg=>simp only [if_neg h12,beq_eq_false_iff_ne.2 h12,Bool.false_and]
 simp only [if_pos h12,beq_iff_eq.2 h12,Bool.true_and]
 by_cases nL:Bz=b13
 case neg=>simp only [if_neg nL,beq_eq_false_iff_ne.2 nL]
 simp only [if_pos nL,beq_iff_eq.2 nL]
theorem Lp (w:World) (a b:ag):(binOp .eql 43 (tk a) (tk b)).run Tryz.prog w = .ok (.bool (gA a b)) w:=by
 rw [run_eql_struct,Cr 9998];rfl
theorem PH (w:World) (a b:ag):(binOp .neq 43 (tk a) (tk b)).run Tryz.prog w = .ok (.bool (!gA a b)) w:=by
 rw [run_neq_struct,Cr 9998];rfl
end Go.Proofs.YteagpjlgjfaclaaGreatDoor
namespace Go.Proofs.YteagpjlgjfaclaaGreatDoor
set_option maxRecDepth 100000
open Go.RowKit
variable {p p':Bool}
attribute [local go_sem] aa.refl aa.alloc aa.drew aa.drewN
theorem Mine.swap {w w':World} {lo hi hi':Nat} {v:Value} {vs:List Lv} {ls:List Lk} (h:Mine w lo hi v vs ls) {k:Nat} {x y:Lv} {l:Lk} (hx:vs[k]?=some x) (O:Own 37 2 gk w' lo v (vs.set k y))
  (g:∀ b,v.ownBlock≠some b->x.row.ownBlock≠some b->b < w.heap.size->w'.heap[b]?=w.heap[b]?) (he:y.o=l.owner) (ho:aS w' lo y.row l.waits) (hh:hi <= hi')
  (hb:∀ b,y.row.ownBlock=some b->(hi <= b /\ b < hi')∨x.row.ownBlock=some b):Mine w' lo hi' v (vs.set k y) (ls.set k l):=by
 have hv:∀ b,y.row.ownBlock=some b->b < hi' /\ v.ownBlock≠some b:=by
  intro b e
  rcases hb b e with ⟨h1,h2⟩ | h1
  ·exact ⟨h2,fun e'=>by have:=h.out b e';omega⟩
  ·exact ⟨Nat.lt_of_lt_of_le (h.gj k x b hx h1).1 hh,(h.gj k x b hx h1).2⟩
 have ha:∀ (j:Nat) (z:Lv) (b:Nat),j≠k->vs[j]?=some z->y.row.ownBlock=some b->z.row.ownBlock=some b->False:=by
  intro j z b hj hz e1 e2
  rcases hb b e1 with ⟨h1,h2⟩ | h1
  ·have:=(h.gj j z b hz e2).1;omega
  ·exact hj (h.apart j k z x b hz hx e2 h1)
 refine ⟨by simp [h.len],O,fun b e=>Nat.lt_of_lt_of_le (h.out b e) hh,?_,?_,?_⟩
 ·intro i z m hz hm
  rcases lB hz with ⟨rfl,rfl⟩ | ⟨hik,hz2⟩ <;> rcases lB hm with ⟨h1,rfl⟩ | ⟨h1,hm2⟩
  ·exact ⟨he,ho⟩
  ·exact absurd rfl h1
  ·exact absurd h1 hik
  ·obtain ⟨r1,r2⟩:=h.rows i z m hz2 hm2
   exact ⟨r1,r2.same fun b e=>g b (h.gj i z b hz2 e).2 (fun e'=>hik (h.apart i k z x b hz2 hx e e')) (r2.cD b e).2⟩
 ·intro i z b hz e
  rcases lB hz with ⟨rfl,rfl⟩ | ⟨hik,hz2⟩
  ·exact hv b e
  ·exact ⟨Nat.lt_of_lt_of_le (h.gj i z b hz2 e).1 hh,(h.gj i z b hz2 e).2⟩
 ·intro i j p q b hp hq e1 e2
  rcases lB hp with ⟨rfl,rfl⟩ | ⟨hik,hp2⟩ <;> rcases lB hq with ⟨rfl,rfl⟩ | ⟨hjk,hq2⟩
  ·rfl
  ·exact (ha j q b hjk hq2 e1 e2).elim
  ·exact (ha i p b hik hp2 e2 e1).elim
  ·exact h.apart i j p q b hp2 hq2 e1 e2
theorem Own.ix {w:World} {base b n cap:Nat} {vs:List Lv} (h:Own 37 2 gk w base (.slice (Option.some ⟨b,0,none⟩) n cap) vs) {k:Nat} {x:Lv} (hx:vs[k]?=Option.some x) (y:Lv) :
  Own 37 2 gk ((w.setCell ⟨b,k*2,none⟩ (.int .i64 y.o)).setCell ⟨b,k*2+1,none⟩ y.row) base (.slice (Option.some ⟨b,0,none⟩) n cap) (vs.set k y):=by
 have h1:=h.setAt gJ (i:=k) (j:=0) (x:=x) (y:={ x with o:=y.o }) (u := .int .i64 y.o) hx (by omega) rfl
 have hl:=da hx
 have h2:=h1.setAt gJ (i:=k) (j:=1) (x:={ x with o:=y.o }) (y:=y) (u:=y.row) (List.getElem?_set_self hl) (by omega) rfl
 rw [List.set_set] at h2
 exact h2
theorem tD {P:Program} (t e:TypeId) (z:Value) (size bytes:Nat) (ht:P.underlying t=some (.slice e)) (hinfo:(P.info? e).map (fun i=>(i.zero,i.size,i.bytes))=some (some z,size,bytes))
  (n:Nat) (hbytes:bytes*n <= 281474976710656) (h63:n <= 9223372036854775807) :
  ∀ w:World,(Instr.makeSlice t (.int .i64 (n:Int)) (.int .i64 (n:Int))).run P w = .ok (.slice (some ⟨w.heap.size,0,none⟩) n n) (w.alloc (.cells (madeCells z.cells (n*size)) e)):=by
 obtain ⟨i,hi,hzz⟩:=Option.map_eq_some_iff.1 hinfo
 simp only [Prod.mk.injEq] at hzz
 obtain ⟨hz,hs,hb⟩:=hzz
 intro w
 have hb':(i.bytes:Int)*(n:Int) <= 281474976710656:=by
  have h:((i.bytes*n:Nat):Int) <= 281474976710656:=by rw [hb];omega
  rwa [Int.natCast_mul] at h
 have hr:=run_make (P:=P) w t e i z ht hi hz .i64 .i64 n n (by omega) (Int.le_refl _) hb' (by omega)
 simp only [Int.toNat_natCast,hs] at hr
 exact hr
abbrev Lv.zero:Lv:=⟨0,none,0,0⟩
theorem MU (n:Nat):(madeCells #[.int .i64 0,.slice none 0 0] (n*2)).toList=bD gk (List.replicate n Lv.zero):=by
 apply List.ext_getElem?
 intro j
 by_cases hj:j < n*2
 ·have hq:j / 2 < n:=by omega
  have:=np gJ (List.replicate n Lv.zero) (j / 2) Lv.zero (by simp [hq]) (j % 2) (by omega)
  rw [show j / 2*2+j % 2=j from by omega] at this
  rw [this]
  simp only [madeCells,Array.getElem?_toList,Array.getElem?_map,Array.getElem?_range,hj,if_true,Option.map_some]
  rcases (show j % 2=0∨j % 2=1 by omega) with e | e <;> simp [e]
 ·rw [List.getElem?_eq_none (by simpa [madeCells] using hj),List.getElem?_eq_none]
  have:=iu gJ (List.replicate n Lv.zero)
  simp at this
  omega
theorem Mine.zero (w:World) (n:Nat) (hn:n <= maxLen):Mine (w.alloc (.cells (madeCells #[.int .i64 0,.slice none 0 0] (n*2)) 37)) w.heap.size (w.heap.size+1) (.slice (some ⟨w.heap.size,0,none⟩) n n) (List.replicate n Lv.zero) (List.replicate n ⟨0,[]⟩):=by
 refine ⟨by simp,?_,?_,?_,?_,?_⟩
 ·have:=World.ownsRow_lit (e:=37) (size:=2) (base:=w.heap.size) w (madeCells #[.int .i64 0,.slice none 0 0] (n*2)) n (Nat.le_refl _) hn (size_madeCells _ _)
  rw [MU] at this
  unfold Own
  rw [List.length_replicate]
  exact this
 ·intro b hb
  simp only [Value.ownBlock,Option.some.injEq] at hb
  omega
 ·intro i x l hx hl
  have e1:=List.eq_of_mem_replicate (List.mem_of_getElem? hx)
  have e2:=List.eq_of_mem_replicate (List.mem_of_getElem? hl)
  subst e1 e2
  exact ⟨rfl,World.ownsRow_nil _ _ _ _⟩
 ·intro i x b hx hb
  have e1:=List.eq_of_mem_replicate (List.mem_of_getElem? hx)
  subst e1
  simp [Value.ownBlock] at hb
 ·intro i j x y b hx hy h1 h2
  have e1:=List.eq_of_mem_replicate (List.mem_of_getElem? hx)
  subst e1
  simp [Value.ownBlock] at h1
end Go.Proofs.YteagpjlgjfaclaaGreatDoor
namespace Go.Proofs.YteagpjlgjfaclaaGreatDoor.Plain
set_option maxRecDepth 100000
def j9 (s x:Int × Int):Int × Int :=
 ((s.1*x.2+x.1*s.2) / (Int.gcd (s.1*x.2+x.1*s.2) (s.2*x.2):Int),(s.2*x.2) / (Int.gcd (s.1*x.2+x.1*s.2) (s.2*x.2):Int))
def dc (xs:List (Int × Int)):Int × Int:=xs.foldl j9 (0,1)
theorem MV (xs:List (Int × Int)) (x:Int × Int):dc (xs++[x])=j9 (dc xs) x:=by simp [dc]
theorem Cu (xs:List (Int × Int)) (k:Nat) (h:k < xs.length):dc (xs.take (k+1))=j9 (dc (xs.take k)) (xs.getD k (0,0)):=by
 rw [List.take_succ_eq_append_getElem h,MV];simp [h]
def Inv (k:Nat) (s:Int × Int):Prop:=0 <= s.1 /\ 1 <= s.2 /\ s.2 <= ((40 ^ k:Nat):Int) /\ s.1 <= (k:Int)*s.2
theorem Cv:Inv 0 (0,1):=by simp [Inv]
theorem MW (n d g:Int) (_hg:1 <= g) (hn:g ∣ n) (hd:g ∣ d):n=g*(n / g) /\ d=g*(d / g):=⟨(Int.mul_ediv_cancel' hn).symm,(Int.mul_ediv_cancel' hd).symm⟩
theorem tZ {a b c:Int} (h:a <= b) (hc:0 <= c):a*c <= b*c:=Int.mul_le_mul_of_nonneg_right h hc
theorem MX {a b c:Int} (h:a <= b) (hc:0 <= c):c*a <= c*b:=Int.mul_le_mul_of_nonneg_left h hc
theorem Cw {k:Nat} {n d q p:Int} (h:Inv k (n,d)) (hp1:1 <= p) (hp2:p <= 40) (hq1:1 <= q) (hq2:q <= p) :
  1 <= (Int.gcd (n*p+q*d) (d*p):Int) /\ (Int.gcd (n*p+q*d) (d*p):Int) <= d*p /\ 0 <= n*p /\ 0 <= q*d /\ 1 <= d*p /\ n*p+q*d <= (k+1:Int)*(d*p) /\ n*p <= (k:Int)*(d*p) /\ q*d <= d*p /\ d*p <= ((40 ^ (k+1):Nat):Int) /\ Inv (k+1) (j9 (n,d) (q,p)):=by
 obtain ⟨h1,h2,h3,h4⟩:=h
 simp only at h1 h2 h3 h4
 have a1:0 <= n*p:=Int.mul_nonneg h1 (by omega)
 have a2:0 <= q*d:=Int.mul_nonneg (by omega) (by omega)
 have a3:1*1 <= d*p:=Int.mul_le_mul h2 hp1 (by omega) (by omega)
 have a4:n*p <= ((k:Int)*d)*p:=tZ h4 (by omega)
 have a5:q*d <= p*d:=tZ hq2 (by omega)
 have a6:((k:Int)*d)*p=(k:Int)*(d*p):=Int.mul_assoc _ _ _
 have a7:p*d=d*p:=Int.mul_comm _ _
 have a8:(k+1:Int)*(d*p)=(k:Int)*(d*p)+d*p:=by rw [Int.add_mul,Int.one_mul]
 have a9:d*p <= ((40 ^ k:Nat):Int)*p:=tZ h3 (by omega)
 have Cs:((40 ^ k:Nat):Int)*p <= ((40 ^ k:Nat):Int)*40:=MX hp2 (by omega)
 have Ct:((40 ^ (k+1):Nat):Int)=((40 ^ k:Nat):Int)*40:=by rw [Nat.pow_succ];exact Int.natCast_mul _ _
 have g0:0 < Int.gcd (n*p+q*d) (d*p):=Int.gcd_pos_of_ne_zero_right _ (by omega)
 have gd:=Int.gcd_dvd_right (n*p+q*d) (d*p)
 have gn:=Int.gcd_dvd_left (n*p+q*d) (d*p)
 have PI:=Int.le_of_dvd (by omega) gd
 unfold Inv j9
 simp only
 generalize (Int.gcd (n*p+q*d) (d*p):Nat)=g at *
 obtain ⟨e1,e2⟩:=MW _ _ (g:Int) (by omega) gn gd
 have f1:0 <= (n*p+q*d) / (g:Int):=Int.ediv_nonneg (by omega) (by omega)
 have f2:0 < (d*p) / (g:Int):=Int.ediv_pos_of_pos_of_dvd (by omega) (by omega) gd
 have f3:(d*p) / (g:Int) <= d*p:=Int.ediv_le_self _ (by omega)
 generalize (n*p+q*d) / (g:Int)=n' at *
 generalize (d*p) / (g:Int)=d' at *
 refine ⟨by omega,by omega,a1,a2,by omega,by omega,by omega,by omega,by omega,f1,by omega,by omega,?_⟩
 have c1:n*p+q*d <= (k+1:Int)*(d*p):=by omega
 rw [e1,e2] at c1
 have c2:(k+1:Int)*((g:Int)*d')=(g:Int)*((k+1:Int)*d'):=Int.mul_left_comm _ _ _
 rw [c2] at c1
 have:=Int.le_of_mul_le_mul_left c1 (by omega)
 simpa using this
theorem MY {k:Nat} (h:k <= 7):((40 ^ k:Nat):Int) <= 163840000000:=by
 have:40 ^ k <= 40 ^ 7:=Nat.pow_le_pow_right (by omega) h
 omega
theorem Cx {k:Nat} {n d q p:Int} (h:Inv k (n,d)) (hk:k < 7) (hp1:1 <= p) (hp2:p <= 40) (hq1:1 <= q) (hq2:q <= p) :
  0 <= n*p /\ n*p <= 1146880000000 /\ 0 <= q*d /\ q*d <= 163840000000 /\ 1 <= d*p /\ d*p <= 163840000000 /\ 1 <= (Int.gcd (n*p+q*d) (d*p):Int) /\ (Int.gcd (n*p+q*d) (d*p):Int) <= 163840000000:=by
 obtain ⟨a1,a2,a3,a4,a5,a6,a7,a8,a9,_⟩:=Cw h hp1 hp2 hq1 hq2
 have:=MY (k:=k+1) (by omega)
 have:(k:Int)*(d*p) <= 7*(d*p):=tZ (by omega) (by omega)
 omega
theorem Cy {k:Nat} {n d q p:Int} (h:Inv k (n,d)) (hp1:1 <= p) (hp2:p <= 40) (hq1:1 <= q) (hq2:q <= p):Inv (k+1) (j9 (n,d) (q,p)):=(Cw h hp1 hp2 hq1 hq2).2.2.2.2.2.2.2.2.2
end Go.Proofs.YteagpjlgjfaclaaGreatDoor.Plain
namespace Go.Proofs.YteagpjlgjfaclaaGreatDoor
set_option maxRecDepth 100000
open Go.RowKit
def Row (w:World) (g:Nat) (t:TypeId) (C:Array Value):Prop:=w.heap[g]?=some (.cells C t (0,0))
theorem Row.lt {w:World} {g:Nat} {t:TypeId} {C:Array Value} (h:Row w g t C):g < w.heap.size:=by
 rcases Nat.lt_or_ge g w.heap.size with hlt | hge
 ·exact hlt
 ·unfold Row at h;rw [Array.getElem?_eq_none hge] at h;cases h
theorem Row.keeps {w w':World} {g:Nat} {t:TypeId} {C:Array Value} (h:Row w g t C) (k:aa w w'):Row w' g t C:=(Below.block k g h.lt).trans h
theorem Row.new (w:World) (C:Array Value) (t:TypeId):Row (w.alloc (.cells C t)) w.heap.size t C:=by
 show (w.heap.push (.cells C t))[w.heap.size]?=_
 simp
theorem Row.cell {w:World} {g:Nat} {t:TypeId} {C:Array Value} (h:Row w g t C) (i:Nat):w.cell? ⟨g,i,none⟩=C[i]?:=by
 have h':w.heap[g]?=some (.cells C t (0,0)):=h
 by_cases hi:i < C.size
 ·simp [World.cell?,h',hi]
 ·simp [World.cell?,h',hi]
theorem Row.frozen {w:World} {g:Nat} {t:TypeId} {C:Array Value} (h:Row w g t C) (i:Nat):w.frozen? ⟨g,i,none⟩=false:=by
 have h':w.heap[g]?=some (.cells C t (0,0)):=h
 simp [World.frozen?,h']
theorem Row.setRow {w:World} {g:Nat} {t:TypeId} {C:Array Value} (h:Row w g t C) (D:Array Value):Row (w.setRow g D) g t D:=setRow_heap w g C D t _ h
theorem aa.setRow {w0 w:World} {g:Nat} (h:aa w0 w) (hg:w0.heap.size <= g) (D:Array Value):aa w0 (w.setRow g D):=below_setRow h hg D
theorem MZ (L:List Value) (C:Array Value) (k:Nat) (h:k+L.length <= C.size):(C.toList.take k++L++C.toList.drop (k+L.length)).toArray=cJ C k L:=by
 apply Array.ext_getElem?
 intro i
 rw [wK _ _ _ _ h]
 simp only [List.getElem?_toArray,List.append_assoc]
 by_cases h1:i < k
 ·rw [if_neg (by omega),List.getElem?_append_left (by simp;omega)]
  simp [h1]
 ·rw [List.getElem?_append_right (by simp;omega)]
  have e:min k C.size=k:=by omega
  by_cases h2:i < k+L.length
  ·rw [if_pos (by omega),List.getElem?_append_left (by simp;omega)]
   simp [e]
  ·rw [if_neg (by omega),List.getElem?_append_right (by simp;omega)]
   simp only [List.length_take,Array.length_toList,e,List.getElem?_drop,Array.getElem?_toList]
   congr 1
   omega
theorem Row.putC {g:Nat} {t:TypeId}:∀ (L:List Value) {w:World} {C:Array Value} (k:Nat),Row w g t C->Row (putC w g k L) g t (cJ C k L)
 | [],_,_,_,h=>h
 | v::r,w,C,k,h=>by
  have e:w.setCell ⟨g,k,none⟩ v=w.setRow g (C.setIfInBounds k v):=setCell_eq_setRow w g k C t (0,0) v h
  exact Row.putC r (k+1) (by rw [e];exact h.setRow _)
variable {P:Program}
theorem M7 (w:World) (dT sT ty elem:TypeId) (sz g o dLen dCap:Nat) (a:Addr) (sLen sCap:Nat) (C:Array Value) (t:TypeId) (n:Nat) (cs:List Value)
  (hu:P.underlying dT=some (.slice elem)) (hs:(P.info? elem).map (·.size)=some sz)
  (hg:Row w g t C) (hm:n=Nat.min sLen dLen) (hn:cs.length=n*sz)
  (hsrc:∀ j v,cs[j]?=some v->w.cell? (a.add j)=some v) (hfit:o+cs.length <= C.size) (h1:∀ v∈cs,v.oneCell'=true) :
  (Builtin.copy_ #[dT,sT] ty #[.slice (some ⟨g,o,none⟩) dLen dCap,.slice (some a) sLen sCap]).run P w = .ok (goInt n) (w.setRow g (cJ C o cs)):=by
 have hl:=run_loadCells_list (P:=P) w a cs hsrc
 have hst:=run_storeCells_at P g o t cs 0 C w hg (by simpa using hfit) h1
 simp only [Nat.add_zero] at hst
 rw [MZ cs C o hfit] at hst
 cases hq:P.info? elem with
 | none=>simp [hq] at hs
 | some i =>
  have hi:i.size=sz:=by simpa [hq] using hs
  simp [Builtin.copy_,run_underlying hu,Builtin.lenOf,Builtin.firstCells,sizeOf,typeInfo,hq,hi,<- hm,<- hn,hl,hst]
theorem Cz (w:World) (dT sT ty elem:TypeId) (d a:Option Addr) (sz dLen dCap sLen sCap:Nat) (hu:P.underlying dT=some (.slice elem)) (hs:(P.info? elem).map (·.size)=some sz) (hn:Nat.min sLen dLen=0) :
  (Builtin.copy_ #[dT,sT] ty #[.slice d dLen dCap,.slice a sLen sCap]).run P w = .ok (goInt 0) w:=by
 cases hq:P.info? elem with
 | none=>simp [hq] at hs
 | some i =>
  have hl:∀ (x:Addr),(loadCells x 0).run P w = .ok #[] w:=fun x=>by simpa using run_loadCells_list (P:=P) w x [] (by simp)
  cases d <;> cases a <;> simp [Builtin.copy_,run_underlying hu,Builtin.lenOf,Builtin.firstCells,sizeOf,typeInfo,hq,hn,storeCells,hl]
theorem tC {α:Type} (c:α->Array Value) (sz:Nat) (hc:∀ x,(c x).size=sz) (h0:0 < sz) (h1:∀ x,∀ u∈(c x).toList,u.oneCell'=true)
  (w:World) (dT sT ty elem:TypeId) (dp sp:Option Addr) (dLen dCap sLen sCap:Nat) (C:Array Value) (t:TypeId) (g off:Nat) (ys:List α)
  (hu:P.underlying dT=some (.slice elem)) (hs:(P.info? elem).map (·.size)=some sz) (hg:Row w g t C) (hn:ys.length=Nat.min sLen dLen)
  (hd:0 < ys.length->dp=some ⟨g,off,none⟩) (hl:cH sz c w sp ys) (hfit:off+ys.length*sz <= C.size) :
  (Builtin.copy_ #[dT,sT] ty #[.slice dp dLen dCap,.slice sp sLen sCap]).run P w = .ok (goInt ys.length) (w.setRow g (cJ C off (bD c ys))):=by
 rcases hl with rfl | ⟨b,o,rfl,hb,hl⟩
 ·have e:cJ C off (bD c ([]:List α))=C:=rfl
  rw [e,setRow_self w g C t (0,0) hg]
  exact Cz w dT sT ty elem dp sp sz dLen dCap sLen sCap hu hs (by simpa using hn.symm)
 ·by_cases hz:ys.length=0
  ·obtain rfl:ys=[]:=List.eq_nil_of_length_eq_zero hz
   have e:cJ C off (bD c ([]:List α))=C:=rfl
   rw [e,setRow_self w g C t (0,0) hg]
   exact Cz w dT sT ty elem dp _ sz dLen dCap sLen sCap hu hs (by simpa using hn.symm)
  ·obtain rfl:=hd (by omega)
   refine M7 w dT sT ty elem sz g off dLen dCap ⟨b,o,none⟩ sLen sCap C t ys.length (bD c ys) hu hs hg hn (iu hc ys) ?_ (by rw [iu hc ys];exact hfit) (pL h1 ys)
   intro j u hj
   have hjl:j < ys.length*sz:=by
    have:=iu hc ys
    rcases Nat.lt_or_ge j (ys.length*sz) with h | h
    ·exact h
    ·rw [List.getElem?_eq_none (by omega)] at hj;cases hj
   have hq:j / sz < ys.length:=Nat.div_lt_of_lt_mul (by rw [Nat.mul_comm];exact hjl)
   have hm:j % sz < sz:=Nat.mod_lt _ h0
   have hjj:j / sz*sz+j % sz=j:=by rw [Nat.mul_comm];exact Nat.div_add_mod j sz
   have h2:=np hc ys (j / sz) ys[j / sz] (List.getElem?_eq_getElem hq) (j % sz) hm
   rw [hjj,hj] at h2
   have h3:=hl (j / sz) ys[j / sz] (List.getElem?_eq_getElem hq) (j % sz) hm
   have ea:(⟨b,o,none⟩:Addr).add j=⟨b,o+j,none⟩:=by unfold Addr.add;by_cases h:j=0 <;> simp [h]
   rw [ea,<- hjj,<- Nat.add_assoc,h3,<- h2]
theorem Row.own {α:Type} {c:α->Array Value} {sz:Nat} (hc:∀ x,(c x).size=sz) {w:World} {g:Nat} {t:TypeId} {xs:List α} (h:Row w g t (bD c xs).toArray) {base:Nat} (hb:base <= g) (hm:xs.length <= maxLen) :
  Own t sz c w base (.slice (some ⟨g,0,none⟩) xs.length xs.length) xs :=
 ⟨iu hc xs,.inr ⟨g,xs.length,_,rfl,hb,h,Nat.le_refl _,hm,by simp [iu hc xs],by rw [<- iu hc xs];simp⟩⟩
end Go.Proofs.YteagpjlgjfaclaaGreatDoor
namespace Go.Proofs.YteagpjlgjfaclaaGreatDoor
set_option maxRecDepth 100000
open Go.RowKit
variable {p:Bool}
attribute [local go_sem] aa.refl aa.alloc aa.drew aa.drewN
set_option maxHeartbeats 1000000 in
theorem M9 (a:Option Addr) (cap:Nat) (ls:List Lk) (no:Int) (w:World) (hl:bT ls <= 2097152) (hs:dU p w a ls) :
  Calls Tryz.prog 181 #[.slice a ls.length cap,.int .i64 no] w fun e w'=>∃ v,e = .returned v /\ aS w' w.heap.size v (fG ls no) /\ aa w w':=by
 have hl0:ls.length <= 2097152:=by unfold bT at hl;omega
 have HS:Hid (dU p w a ls):=hs
 clear hs
 have LO:Hid (∀ w',aa w w'->Calls Tryz.prog 70 #[.slice a ls.length cap] w' fun e w''=>e = .returned (.bool (dm ls)) /\ aa w' w''):=fun w' h=>tY a cap ls w' hl (HS.out.keeps h)
 have CH:Hid (∀ w',aa w w'->Calls Tryz.prog 110 #[.slice a ls.length cap,.int .i64 no] w' fun e w''=>∃ v,e = .returned (.tuple #[v,.bool (cO ls (ls.length+1) no).2]) /\ aS w'' w'.heap.size v (cO ls (ls.length+1) no).1 /\ aa w' w''):=fun w' h=>tX a cap ls no w' hl0 (HS.out.keeps h)
 obtain ⟨n,Hn⟩:∃ n,Hid (ls.length=n):=⟨_,rfl⟩
 obtain ⟨C,HC⟩:∃ C,Hid (cO ls (n+1) no=C):=⟨_,rfl⟩
 rw [Hn.out] at LO CH ⊢
 rw [HC.out] at CH
 clear hl hl0
 cases hb:dm ls
 ·have Hr:Hid (fG ls no=[]):=by show _=_;unfold fG;rw [hb];rfl
  rw [hb] at LO
  go_enter Tryz.func181,Tryz.ntmps181
  go_wp2_with (go_at_call 70;refine (LO.out _ (aa.refl _)).mono ?_;rintro e w1 ⟨rfl,k1⟩)
  go_ret
  exact ⟨_,rfl,by rw [Hr.out];exact Own.new 3 1 ic w1 k1.size,k1.alloc _⟩
 ·have Hr:Hid (fG ls no=C.1):=by show _=_;unfold fG;rw [hb,Hn.out,HC.out];rfl
  rw [hb] at LO
  go_enter Tryz.func181,Tryz.ntmps181
  go_wp2_with (first
   | (go_at_call 70;refine (LO.out _ (aa.refl _)).mono ?_;rintro e w1 ⟨rfl,k1⟩)
   | (go_at_call 110;refine (CH.out _ k1).mono ?_;rintro e w2 ⟨v,rfl,O2,k2⟩))
  go_ret
  exact ⟨_,rfl,by rw [Hr.out];exact O2.base k1.size,k1.trans k2⟩
theorem Na (xs ys:List Int) (x:Int):eK (xs++ys) x=eK xs x++eK ys x:=by simp [eK]
theorem CC {xs:List Int} {k:Nat} {y x:Int} (h:xs[k]?=some y):eK (xs.take (k+1)) x=eK (xs.take k) x++(if y != x then [y] else []):=by
 rw [List.take_add_one,h,Na]
 congr 1
 cases hx:(y != x) <;> simp [eK,hx]
theorem Nb (xs:List Int) (x:Int):(eK xs x).length <= xs.length:=List.length_filter_le _ _
set_option maxHeartbeats 2000000 in
theorem Nc (a:Option Addr) (cap:Nat) (xs:List Int) (x:Int) (w:World) (hl:xs.length <= 2097152) (hs:Ns w a xs) :
  Calls Tryz.prog 182 #[.slice a xs.length cap,.int .i64 x] w fun e w'=>∃ v,e = .returned v /\ aS w' w.heap.size v (eK xs x) /\ aa w w':=by
 generalize hn:xs.length=n at hl
 have Hn:Hid (xs.length=n):=hn
 clear hn
 have HS:Hid (Ns w a xs):=hs
 clear hs
 go_enter Tryz.func182,Tryz.ntmps182
 go_wp2
 have kz:Hid (aa w (w.alloc (.cells #[] 3))):=(aa.refl _).alloc _
 have dQ:Hid (aS (w.alloc (.cells #[] 3)) w.heap.size (.slice (some ⟨w.heap.size,0,none⟩) 0 0) []):=Own.new 3 1 ic w (Nat.le_refl _)
 generalize w.alloc (.cells #[] 3)=W at *
 go_loopw [5,6] (fun v i wr=>∃ (k:Nat) (ys:List Int),k <= n /\ i = .int .i64 k /\ ys.length <= k /\ Hid (aS wr w.heap.size v ys) /\ aa w wr /\ Hid (eK (xs.take k) x=ys)) (fun _ i _=>n - (intOf i).toNat)
 case atStart=>exact ⟨0,[],Nat.zero_le _,rfl,by simp,dQ,kz.out,by show _=_;simp [eK]⟩
 case round =>
  obtain ⟨k,ys,hk,rfl,hy,own,hK,HI⟩:=hrel
  clear dQ kz
  by_cases hlt:k < n
  ·obtain ⟨y,hy1⟩:=bW (xs:=xs) (k:=k) (by rw [Hn.out];exact hlt)
   obtain ⟨b,off,rfl,r0⟩:=HS.out.at hy1
   have hlt':(k:Int) < (n:Int):=by omega
   have Hy:Hid (xs[k]?=some y):=hy1
   clear hy1
   cases hq:(y != x)
   ·go_wp2
    refine ⟨⟨k+1,ys,by omega,by go_num,by omega,own,hK,?_⟩,by simp only [intOf];omega⟩
    show _=_
    rw [CC Hy.out,HI.out,hq]
    simp
   ·go_wp2_with (at_builtin;(refine iE rfl _ _ 27 rfl w 3 (.int .i64 0) 1 8 ic Tryz.underlying27 (by kernel_rfl) rfl (by decide) fW lN _ ys rfl wr own.out hK ((aa.refl _).alloc _) y _ 1 (ai.new _ _ _) rfl ?c1 ?c2 ?_))
    case c1=>unfold maxLen;omega
    case c2=>omega
    intro v' w5 cP k5 _
    have HO:Hid (aS w5 w.heap.size v' (ys++[y])):=cP
    clear cP own
    go_wp2
    refine ⟨⟨k+1,ys++[y],by omega,by go_num,by simp;omega,HO,k5,?_⟩,by simp only [intOf];omega⟩
    show _=_
    rw [CC Hy.out,HI.out,hq]
    rfl
  ·have e:k=n:=by omega
   subst e
   have HR:Hid (eK xs x=ys):=by show _=_;rw [<- HI.out,<- Hn.out,List.take_length]
   go_wp2
   go_ret
   exact ⟨_,rfl,by rw [HR.out];exact own.out,hK⟩
theorem s9 {α:Type} {P:Program} (w:World) (base:Nat) (t ty e:TypeId) (z:Value) (sz bytes:Nat) (c:α->Array Value) (ht:P.underlying t=some (.slice e)) (hinfo:(P.info? e).map (fun i=>(i.zero,i.size,i.bytes))=some (some z,sz,bytes))
  (hzs:z.cells.size=sz) (hsz:0 < sz) (hc:∀ x,(c x).size=sz) (h1:∀ x,∀ u∈(c x).toList,u.oneCell'=true)
  (v:Value) (xs:List α) (hown:Own e sz c w base v xs) (hbase:base <= w.heap.size)
  (ys:List α) (b off cp:Nat) (hl:cH sz c w (some ⟨b,off,none⟩) ys)
  (h63:xs.length+ys.length <= maxLen) (hbytes:(xs.length+ys.length)*bytes <= 140737488355328) :
  ∃ v' w',(Builtin.append_ #[t,t] ty #[v,.slice (some ⟨b,off,none⟩) ys.length cp]).run P w = .ok v' w' /\ Own e sz c w' base v' (xs++ys) /\ w.grownBy w' v.ownBlock /\ ∀ k,v'.ownBlock=some k->v.ownBlock=some k∨k=w.heap.size:=by
 obtain ⟨i,hi,hzz⟩:=Option.map_eq_some_iff.1 hinfo
 simp only [Prod.mk.injEq] at hzz
 obtain ⟨hz0,hz1,hz2⟩:=hzz
 have hnews:∀ j u,(bD c ys)[j]?=some u->w.cell? ((⟨b,off,none⟩:Addr).add j)=some u:=by
  intro j u hj
  have hjl:j < ys.length*sz:=by
   have:=iu hc ys
   rcases Nat.lt_or_ge j (ys.length*sz) with h | h
   ·exact h
   ·rw [List.getElem?_eq_none (by omega)] at hj;cases hj
  have hq:j / sz < ys.length:=Nat.div_lt_of_lt_mul (by rw [Nat.mul_comm];exact hjl)
  have hm:j % sz < sz:=Nat.mod_lt _ hsz
  have hjj:j / sz*sz+j % sz=j:=by rw [Nat.mul_comm];exact Nat.div_add_mod j sz
  have h2:=np hc ys (j / sz) ys[j / sz] (List.getElem?_eq_getElem hq) (j % sz) hm
  rw [hjj,hj] at h2
  rcases hl with hl | ⟨b',off',e',hb',hl⟩
  ·rw [hl] at hq;simp at hq
  ·simp only [Option.some.injEq,Addr.mk.injEq] at e'
   obtain ⟨rfl,rfl,-⟩:=e'
   have h3:=hl (j / sz) ys[j / sz] (List.getElem?_eq_getElem hq) (j % sz) hm
   have ea:(⟨b,off,none⟩:Addr).add j=⟨b,off+j,none⟩:=by unfold Addr.add;by_cases h:j=0 <;> simp [h]
   rw [ea,<- hjj,<- Nat.add_assoc,h3,<- h2]
 obtain ⟨v',w',hrun,r1,r2,r3⟩:=run_append_own (P:=P) w base t ty e i z sz bytes ht hi hz0 hz1 hz2 hzs hsz v xs.length (bD c xs) hown ⟨b,off,none⟩ ys.length cp (bD c ys) (iu hc ys) hnews (pL h1 ys) h63 hbytes hbase
 refine ⟨v',w',hrun,by unfold Own;rw [tq,List.length_append];exact r1,r2,fun k hk => ?_⟩
 subst hz1
 subst hz2
 have hsm:xs.length+ys.length <= 9223372036854775807:=by simp only [maxLen] at h63;omega
 have hown':=hown
 rcases hown'.2 with ⟨rfl,hx0⟩ | ⟨g,cap,cur,rfl,hbg,hg,hnc,hcm,hcs,htake⟩
 ·by_cases hm:ys.length=0
  ·have:=r3.2 ⟨rfl,hm⟩
   rw [this] at hk
   simp [Value.ownBlock] at hk
  ·have hr:=run_append_nil (P:=P) w t ty e i z ht hi hz0 ⟨b,off,none⟩ ys.length cp (bD c ys) (iu hc ys) hnews (by omega) (by omega) (by have hb:=hbytes;rw [hx0,Nat.zero_add] at hb;omega)
   rw [hr] at hrun
   simp only [Result.ok.injEq] at hrun
   rw [<- hrun.1] at hk
   simp [Value.ownBlock] at hk
   exact .inr hk.symm
 ·by_cases hroom:xs.length+ys.length <= cap
  ·obtain ⟨w2,hr,_,_⟩:=run_append_fits (P:=P) w base t ty e i i.size ht hi rfl g xs.length cap (bD c xs) hown ⟨b,off,none⟩ ys.length cp (bD c ys) (iu hc ys) hnews (pL h1 ys) hroom
   rw [hr] at hrun
   simp only [Result.ok.injEq] at hrun
   rw [<- hrun.1] at hk
   exact .inl hk
  ·have holds:∀ j u,(bD c xs)[j]?=some u->w.cell? ((⟨g,0,none⟩:Addr).add j)=some u:=World.ownsRow.cells hown (g:=g) rfl
   have hr:=run_append_grow (P:=P) w t ty e i z ht hi hz0 ⟨g,0,none⟩ xs.length cap (bD c xs) hown.1 holds ⟨b,off,none⟩ ys.length cp (bD c ys) (iu hc ys) hnews (by omega) (by omega) (growslice_fits (by omega) hbytes)
   rw [hr] at hrun
   simp only [Result.ok.injEq] at hrun
   rw [<- hrun.1] at hk
   simp [Value.ownBlock] at hk
   exact .inr hk.symm
theorem pA {α:Type} {P:Program} {ops:Array Oper} {o:Oper} {a:Act} {w:World} {K:Act->World->Prop} {Q:Exit->Act->World->Prop} {E:Prop}
  (hg:o.guard=none) (s x:Operand) (t:TypeId) (hop:o.op=Op.call { callee:=Callee.builtin Builtin.append,args:=#[s,x],argTypes:=#[t,t] })
  (base:Nat) (e:TypeId) (z:Value) (sz bytes:Nat) (c:α->Array Value) (ht:P.underlying t=some (.slice e)) (hinfo:(P.info? e).map (fun i=>(i.zero,i.size,i.bytes))=some (some z,sz,bytes))
  (hzs:z.cells.size=sz) (hsz:0 < sz) (hc:∀ x,(c x).size=sz) (h1:∀ x,∀ u∈(c x).toList,u.oneCell'=true)
  (v:Value) (xs:List α) (hs:a.eval s=v) (hown:Own e sz c w base v xs) (hbase:base <= w.heap.size)
  (ys:List α) (b off cp:Nat) (hl:cH sz c w (some ⟨b,off,none⟩) ys) (hx:a.eval x = .slice (some ⟨b,off,none⟩) ys.length cp)
  (h63:xs.length+ys.length <= maxLen) (hbytes:(xs.length+ys.length)*bytes <= 140737488355328)
  (hK:∀ v' w',Own e sz c w' base v' (xs++ys)->w.grownBy w' v.ownBlock->(∀ k,v'.ownBlock=some k->v.ownBlock=some k∨k=w.heap.size)->K (a.put o.dst v') w') :
  if Region.wanted o (yielded ops a.tmps)=true then Oper.wp P o a w K Q else E:=by
 have hw:Region.wanted o (yielded ops a.tmps)=true:=by simp [Region.wanted,hg]
 rw [if_pos hw]
 obtain ⟨v',w',hrun,r1,r2,r3⟩:=s9 (P:=P) w base t o.type e z sz bytes c ht hinfo hzs hsz hc h1 v xs hown hbase ys b off cp hl h63 hbytes
 unfold Oper.wp
 simp [execOp,hop,resolve,invoke,builtin,hs,hx,hrun,Result.andThen]
 exact hK v' w' r1 r2 r3
theorem nc {α:Type} {P:Program} {w:World} {ops:Array Oper} {rest:List Oper} {o:Oper} {a:Act} {Q:Exit->Act->World->Prop} (hgd:o.guard=none) (s x:Operand) (t:TypeId)
  (hop:o.op = .call { callee := .builtin .append,args:=#[s,x],argTypes:=#[t,t] })
  (base:Nat) (e:TypeId) (z:Value) (sz bytes:Nat) (c:α->Array Value) (ht:P.underlying t=some (.slice e)) (hinfo:(P.info? e).map (fun i=>(i.zero,i.size,i.bytes))=some (some z,sz,bytes))
  (hzs:z.cells.size=sz) (hsz:0 < sz) (hc:∀ x,(c x).size=sz) (h1:∀ x,∀ u∈(c x).toList,u.oneCell'=true)
  (v:Value) (xs:List α) (hs:a.eval s=v) (hown:Own e sz c w base v xs) (hbase:base <= w.heap.size)
  (y:α) (b cp:Nat) (hb:ai w b (c y)) (hx:a.eval x = .slice (some ⟨b,0,none⟩) 1 cp)
  (h63:xs.length+1 <= maxLen) (hbytes:(xs.length+1)*bytes <= 140737488355328)
  (h:∀ v' w',Own e sz c w' base v' (xs++[y])->w.grownBy w' v.ownBlock->(∀ k,v'.ownBlock=some k->v.ownBlock=some k∨k=w.heap.size)->wpList P ops Q rest (a.put o.dst v') w'):wpList P ops Q (o::rest) a w:=by
 refine wpList_plain hgd fun K hK => ?_
 have hl:cH sz c w (some ⟨b,0,none⟩) [y]:=by
  refine .inr ⟨_,_,rfl,hb.lt,fun i x hx k hk => ?_⟩
  cases i with
  | zero=>simp at hx;subst hx;simpa using hb.cells k
  | succ i=>simp at hx
 obtain ⟨v',w',hrun,r1,r2,r3⟩:=s9 (P:=P) w base t o.type e z sz bytes c ht hinfo hzs hsz hc h1 v xs hown hbase [y] b 0 cp hl h63 hbytes
 have hrun':(Builtin.append_ #[t,t] o.type #[v,.slice (some ⟨b,0,none⟩) 1 cp]).run P w = .ok v' w':=hrun
 unfold Oper.wp execOp
 simp only [hop,resolve,invoke,builtin,Sem.run_bind,Sem.run_pure,Result.andThen_ok,List.map_toArray,List.map_cons,List.map_nil,hs,hx,hrun']
 exact hK _ _ (h v' w' r1 r2 r3)
theorem Mz {α:Type} {P:Program} {ops:Array Oper} {o:Oper} {a:Act} {w:World} {K:Act->World->Prop} {Q:Exit->Act->World->Prop} {E:Prop}
  (hg:o.guard=none) (s x:Operand) (t:TypeId) (hop:o.op=Op.call { callee:=Callee.builtin Builtin.append,args:=#[s,x],argTypes:=#[t,t] })
  (base:Nat) (e:TypeId) (z:Value) (sz bytes:Nat) (c:α->Array Value) (ht:P.underlying t=some (.slice e)) (hinfo:(P.info? e).map (fun i=>(i.zero,i.size,i.bytes))=some (some z,sz,bytes))
  (v:Value) (xs:List α) (hs:a.eval s=v) (hown:Own e sz c w base v xs) (hx:a.eval x = .slice none 0 0)
  (hK:K (a.put o.dst v) w) :
  if Region.wanted o (yielded ops a.tmps)=true then Oper.wp P o a w K Q else E:=by
 have hw:Region.wanted o (yielded ops a.tmps)=true:=by simp [Region.wanted,hg]
 rw [if_pos hw]
 obtain ⟨i,hi,hzz⟩:=Option.map_eq_some_iff.1 hinfo
 have hrun:=run_append_owned_none (P:=P) w base t o.type e i sz ht hi v xs.length (bD c xs) hown
 unfold Oper.wp
 simp [execOp,hop,resolve,invoke,builtin,hs,hx,hrun,Result.andThen]
 exact hK
theorem Mine.push {w w':World} {lo hi hi':Nat} {v v':Value} {vs:List Lv} {ls:List Lk} (h:Mine w lo hi v vs ls) {y:Lv} {l:Lk} (O:Own 37 2 gk w' lo v' (vs++[y])) (g:w.grownBy w' v.ownBlock) (he:y.o=l.owner) (ho:aS w lo y.row l.waits)
  (hb:∀ b,y.row.ownBlock=some b->hi <= b /\ b < hi' /\ b < w.heap.size) (hv:∀ b,v'.ownBlock=some b->v.ownBlock=some b∨(w.heap.size <= b /\ b < hi')) (hh:hi <= hi'):Mine w' lo hi' v' (vs++[y]) (ls++[l]):=by
 have hin:∀ (i:Nat) (x:Lv) (b:Nat),vs[i]?=some x->x.row.ownBlock=some b->b < w.heap.size:=fun i x b hx e=>by
  obtain ⟨m,hm⟩:=bW (xs:=ls) (k:=i) (by rw [<- h.len];exact da hx)
  exact ((h.rows i x m hx hm).2.cD b e).2
 have at':∀ (i:Nat) (x:Lv),(vs++[y])[i]?=some x->(i < vs.length /\ vs[i]?=some x)∨(i=vs.length /\ x=y):=by
  intro i x hx
  rcases Nat.lt_or_ge i vs.length with hi | hi
  ·rw [List.getElem?_append_left hi] at hx;exact .inl ⟨hi,hx⟩
  ·rw [List.getElem?_append_right hi] at hx
   have:i - vs.length=0:=by have:=da hx;simp at this;omega
   rw [this] at hx
   simp at hx
   exact .inr ⟨by omega,hx.symm⟩
 have yv:∀ b,y.row.ownBlock=some b->v.ownBlock≠some b:=fun b e e'=>by have:=(hb b e).1;have:=h.out b e';omega
 refine ⟨by simp [h.len],O,fun b e => ?_,?_,?_,?_⟩
 ·rcases hv b e with e' | e'
  ·exact Nat.lt_of_lt_of_le (h.out b e') hh
  ·exact e'.2
 ·intro i x m hx hm
  rcases at' i x hx with ⟨hi,hx2⟩ | ⟨rfl,rfl⟩
  ·rw [List.getElem?_append_left (by rw [<- h.len];exact hi)] at hm
   obtain ⟨r1,r2⟩:=h.rows i x m hx2 hm
   exact ⟨r1,r2.same fun b e=>g.block b (r2.cD b e).2 (fun e'=>(h.gj i x b hx2 e).2 e'.symm)⟩
  ·rw [h.len,List.getElem?_append_right (Nat.le_refl _),Nat.sub_self] at hm
   simp at hm
   subst hm
   exact ⟨he,ho.same fun b e=>g.block b (hb b e).2.2 (fun e'=>yv b e e'.symm)⟩
 ·intro i x b hx e
  rcases at' i x hx with ⟨hi,hx2⟩ | ⟨rfl,rfl⟩
  ·refine ⟨Nat.lt_of_lt_of_le (h.gj i x b hx2 e).1 hh,fun e' => ?_⟩
   rcases hv b e' with e2 | e2
   ·exact (h.gj i x b hx2 e).2 e2
   ·have:=hin i x b hx2 e;omega
  ·refine ⟨(hb b e).2.1,fun e' => ?_⟩
   rcases hv b e' with e2 | e2
   ·exact yv b e e2
   ·have:=(hb b e).2.2;omega
 ·intro i j x z b hx hz e1 e2
  rcases at' i x hx with ⟨hi,hx2⟩ | ⟨rfl,rfl⟩ <;> rcases at' j z hz with ⟨hj,hz2⟩ | ⟨rfl,rfl⟩
  ·exact h.apart i j x z b hx2 hz2 e1 e2
  ·have:=(hb b e2).1;have:=(h.gj i x b hx2 e1).1;omega
  ·have:=(hb b e1).1;have:=(h.gj j z b hz2 e2).1;omega
  ·rfl
theorem Mine.none (w:World) (lo hi:Nat) (v:Value) (O:Own 37 2 gk w lo v []) (hv:∀ b,v.ownBlock=some b->b < hi):Mine w lo hi v [] [] :=
 ⟨rfl,O,hv,fun i x l h=>by simp at h,fun i x b h=>by simp at h,fun i j x y b h=>by simp at h⟩
end Go.Proofs.YteagpjlgjfaclaaGreatDoor
