/-
  The variable errors.errorType and the program's six errors,
  A task is put among others: the program's TaskPut.
-/
import Derived.Test.YteagpjlgjfaclaaGreatDoorFrame
import Derived.Test.YteagpjlgjfaclaaGreatDoorSum
import Derived.Test.YteagpjlgjfaclaaGreatDoorErrAs
import Derived.ChangeSame
import Derived.ChangeVars
import Derived.OpenVars
import Derived.JoinedOf
import Derived.RowKitTokens
import Derived.LaidLaws
import Derived.LaidHandle
import Derived.LaidMore
import Derived.Stop.LaidErr
import Derived.Stop.LaidTwo
import Derived.Stop.Joined
import Derived.Test.YteagpjlgjfaclaaGreatDoorLockDraw2
import Derived.Test.YteagpjlgjfaclaaGreatDoorImplSys
namespace Go.Proofs.YteagpjlgjfaclaaGreatDoor
set_option maxRecDepth 100000
open Go.ChangeShapes Go.WideShapes Go.RowKit
set_option maxRecDepth 100000
abbrev qfe:List (String × DataW Unit):=[("loop.example/g00185/impl.errBad",Rows.laid_loop_example_g00185_impl_errBad),("loop.example/g00185/impl.errNone",Rows.laid_loop_example_g00185_impl_errNone),("loop.example/g00185/impl.errKnown",Rows.laid_loop_example_g00185_impl_errKnown),("loop.example/g00185/impl.errFull",Rows.laid_loop_example_g00185_impl_errFull),("loop.example/g00185/impl.errState",Rows.laid_loop_example_g00185_impl_errState),("loop.example/g00185/impl.errCycle",Rows.laid_loop_example_g00185_impl_errCycle)]
abbrev qdq:List (String × DataW Unit):=("errors.errorType",Rows.laid_errors_errorType)::qfe
theorem qkO:Tryz.prog.globalNamed "errors.errorType" = some 0:=by kernel_rfl
theorem qkP:(Tryz.prog.cutTypes.find? (·.1 == "internal/reflectlite.rtype")).map (·.2)=some 152:=by kernel_rfl
theorem qkQ:((List.range Tryz.prog.types.size).filter fun t=>Tryz.prog.rowNamed t [101,114,114,111,114])=[63]:=by kernel_rfl
theorem qkR:typeHandle Tryz.prog 63 = .pointer (some ⟨7,63,none⟩):=by kernel_rfl
theorem qgE {W:World} (h:laidMetH Tryz.prog qdq W):laidMet Tryz.prog qfe W /\ handlesMet Tryz.prog [("errors.errorType",Rows.laid_errors_errorType)] W:=h
theorem qkS {W:World} (h:laidMetH Tryz.prog qdq W):GlobE W:=by
 obtain ⟨name,u,ty,e1,e2,e3,e4,e5⟩:=(qgE h).2 _ (List.mem_singleton.2 rfl)
 have en:name=[101,114,114,111,114]:=(Option.some.inj e1).symm
 subst en
 obtain rfl:=Option.some.inj (qkP.symm.trans e2)
 have hm:ty∈(List.range Tryz.prog.types.size).filter fun t=>Tryz.prog.rowNamed t [101,114,114,111,114]:=List.mem_filter.2 ⟨List.mem_range.2 e3,e4⟩
 rw [qkQ] at hm
 obtain rfl:=List.mem_singleton.1 hm
 rw [qkR] at e5
 unfold GlobE
 simpa using World.var?_cell qkO e5 0
theorem qbg {P:Program} {x y:String × DataW Unit} {r:List (String × DataW Unit)} {w:World} (h:laidMet P (x::y::r) w):laidMet P (x::r) w:=by
 obtain ⟨ps,hv,hnd,hrows⟩:=h
 obtain ⟨n,d⟩:=x
 obtain ⟨m,e⟩:=y
 obtain ⟨g,t,cs,fuel,p,q,h1,h2,h3,h4,⟨g',t',cs',fuel',p',q',_,_,_,_,hq,rfl⟩,rfl⟩:=hv
 have hsub:(MemPlace.row ⟨g,0,none⟩ cs.size++p++q').Sublist (MemPlace.row ⟨g,0,none⟩ cs.size++p++(MemPlace.row ⟨g',0,none⟩ cs'.size++p'++q')):=List.Sublist.append (List.Sublist.refl _) (List.sublist_append_right _ _)
 exact ⟨_,⟨g,t,cs,fuel,p,q',h1,h2,h3,h4,hq,rfl⟩,List.Nodup.sublist hsub hnd,fun b off hm=>hrows b off (hsub.subset hm)⟩
def Duo (W:World) (i j:Nat):Prop:=∃ a b:Addr,W.cell? ⟨i,0,none⟩=some (.iface 284 (.pointer (some a))) /\ W.cell? ⟨j,0,none⟩=some (.iface 284 (.pointer (some b))) /\ a≠b /\
 (∃ c t,W.heap[a.block]?=some (.cells c t (0,0))) /\ ∃ c t,W.heap[b.block]?=some (.cells c t (0,0))
theorem qgF : "*" ++ "errors.errorString" = "*errors.errorString" := by decide
theorem qkT (u:TypeId) (h:Tryz.prog.typeName? 3 u=some "*errors.errorString"):u=284 :=
 typeName_ptr_named (nm := "errors.errorString") (by rw [qgF];kernel_rfl) (by kernel_rfl) (by decide) u (by rw [qgF];exact h)
theorem qbI {n0 n1:String} {text0 text1:List UInt8} {r:List (String × DataW Unit)} {W:World} {g0 g1:Nat}
  (h:laidMet Tryz.prog ((n0,.iface "*errors.errorString" (.ptr (.agg [.lit (.string text0)])))::(n1,.iface "*errors.errorString" (.ptr (.agg [.lit (.string text1)])))::r) W)
  (hg0:Tryz.prog.globalNamed n0=some g0) (ht0:(Tryz.prog.globals[g0]?).map (·.type)=some 63) (hg1:Tryz.prog.globalNamed n1=some g1) (ht1:(Tryz.prog.globals[g1]?).map (·.type)=some 63):Duo W g0 g1:=by
 obtain ⟨a,b,s0,s1,c0,c1,t0,t1,hv0,hv1,_,_,_,_,_,_,hne,hb0,hb1⟩:=laid_sentinels2 (ti:=63) (tp:=284) (te:=324) (ts:=9) h hg0 ht0 hg1 ht1 Tryz.underlying63 qkT Tryz.underlying284 Tryz.underlying324 rfl rfl Tryz.underlying9 (by kernel_rfl) (by kernel_rfl)
 exact ⟨a,b,by simpa using World.var?_cell hg0 hv0 0,by simpa using World.var?_cell hg1 hv1 0,hne,⟨_,_,hb0⟩,⟨_,_,hb1⟩⟩
theorem at1:Tryz.prog.globalNamed "loop.example/g00185/impl.errBad" = some 1:=by kernel_rfl
theorem at2:Tryz.prog.globalNamed "loop.example/g00185/impl.errNone" = some 2:=by kernel_rfl
theorem at3:Tryz.prog.globalNamed "loop.example/g00185/impl.errKnown" = some 3:=by kernel_rfl
theorem at4:Tryz.prog.globalNamed "loop.example/g00185/impl.errFull" = some 4:=by kernel_rfl
theorem at5:Tryz.prog.globalNamed "loop.example/g00185/impl.errState" = some 5:=by kernel_rfl
theorem at6:Tryz.prog.globalNamed "loop.example/g00185/impl.errCycle" = some 6:=by kernel_rfl
theorem ty1:(Tryz.prog.globals[1]?).map (·.type)=some 63:=by kernel_rfl
theorem ty2:(Tryz.prog.globals[2]?).map (·.type)=some 63:=by kernel_rfl
theorem ty3:(Tryz.prog.globals[3]?).map (·.type)=some 63:=by kernel_rfl
theorem ty4:(Tryz.prog.globals[4]?).map (·.type)=some 63:=by kernel_rfl
theorem ty5:(Tryz.prog.globals[5]?).map (·.type)=some 63:=by kernel_rfl
theorem ty6:(Tryz.prog.globals[6]?).map (·.type)=some 63:=by kernel_rfl
theorem duos {W:World} (h:laidMet Tryz.prog qfe W) (i j:Nat) (h1:1 <= i) (h2:i < j) (h3:j <= 6):Duo W i j:=by
 have d1:=h
 have d2:=d1.tail
 have d3:=d2.tail
 have d4:=d3.tail
 have d5:=d4.tail
 have a12:=qbI d1 at1 ty1 at2 ty2
 have a13:=qbI (qbg d1) at1 ty1 at3 ty3
 have a14:=qbI (qbg (qbg d1)) at1 ty1 at4 ty4
 have a15:=qbI (qbg (qbg (qbg d1))) at1 ty1 at5 ty5
 have a16:=qbI (qbg (qbg (qbg (qbg d1)))) at1 ty1 at6 ty6
 have a23:=qbI d2 at2 ty2 at3 ty3
 have a24:=qbI (qbg d2) at2 ty2 at4 ty4
 have a25:=qbI (qbg (qbg d2)) at2 ty2 at5 ty5
 have a26:=qbI (qbg (qbg (qbg d2))) at2 ty2 at6 ty6
 have a34:=qbI d3 at3 ty3 at4 ty4
 have a35:=qbI (qbg d3) at3 ty3 at5 ty5
 have a36:=qbI (qbg (qbg d3)) at3 ty3 at6 ty6
 have a45:=qbI d4 at4 ty4 at5 ty5
 have a46:=qbI (qbg d4) at4 ty4 at6 ty6
 have a56:=qbI d5 at5 ty5 at6 ty6
 clear d1 d2 d3 d4 d5
 have hj:j=2∨j=3∨j=4∨j=5∨j=6:=by omega
 have hi:i=1∨i=2∨i=3∨i=4∨i=5:=by omega
 rcases hi with rfl | rfl | rfl | rfl | rfl <;> rcases hj with rfl | rfl | rfl | rfl | rfl <;> first | omega | assumption
def erOf (W:World) (k:Nat):Addr:=match W.cell? ⟨k,0,none⟩ with
 | some (.iface _ (.pointer (some a)))=>a
 | _=>⟨0,0,none⟩
theorem qdG {W:World} {k:Nat} {t:TypeId} {a:Addr} (h:W.cell? ⟨k,0,none⟩=some (.iface t (.pointer (some a)))):erOf W k=a:=by
 unfold erOf
 rw [h]
theorem qkU {W:World} (h:laidMetH Tryz.prog qdq W):Errs W (erOf W):=by
 have d:=duos (qgE h).1
 have one:∀ k,1 <= k->k <= 6->∃ a:Addr,W.cell? ⟨k,0,none⟩=some (.iface 284 (.pointer (some a))) /\ ∃ c t,W.heap[a.block]?=some (.cells c t (0,0)):=by
  intro k h1 h6
  by_cases e:k=6
  ·subst e
   obtain ⟨a,b,_,hb,_,_,lb⟩:=d 5 6 (by omega) (by omega) (by omega)
   exact ⟨b,hb,lb⟩
  ·obtain ⟨a,b,ha,_,_,la,_⟩:=d k 6 h1 (by omega) (by omega)
   exact ⟨a,ha,la⟩
 refine ⟨fun k h1 h6 => ?_,?_,fun j k j1 j6 k1 k6 hne => ?_,fun k h1 h6 => ?_⟩
 ·obtain ⟨a,ha,_⟩:=one k h1 h6
  rw [qdG ha]
  exact ha
 ·obtain ⟨a,ha,_⟩:=one 6 (by omega) (by omega)
  exact World.block_lt_of_cell? W _ ha
 ·rcases Nat.lt_or_gt_of_ne hne with hl | hl
  ·obtain ⟨a,b,ha,hb,n,_,_⟩:=d j k j1 hl k6
   rw [qdG ha,qdG hb]
   exact n
  ·obtain ⟨a,b,ha,hb,n,_,_⟩:=d k j k1 hl j6
   rw [qdG ha,qdG hb]
   exact n.symm
 ·obtain ⟨a,ha,la⟩:=one k h1 h6
  rw [qdG ha]
  exact la
theorem qkV (os:Os) (args:Array Value):laidMetH Tryz.prog qdq ((World.doorLaid Tryz.prog 400 os).forCall (fun _ _=>0) ⟨#[],args,[]⟩).memory :=
 laidMetH_of_parts3 (fuel:=8) (laidMet_of_run' 8 (by kernel_rfl) (by kernel_rfl)) (by kernel_rfl) (by kernel_rfl)
end Go.Proofs.YteagpjlgjfaclaaGreatDoor
namespace Go.Proofs.YteagpjlgjfaclaaGreatDoor
set_option maxRecDepth 100000
open Go.RowKit
attribute [local go_sem] Keeps.refl Keeps.alloc Keeps.drew Keeps.drewN
def qbl (no:Int):List Tsk->Nat
 | []=>0
 | x::r=>if decide (no <= x.no) then 0 else qbl no r+1
theorem qjZ (no:Int) (ts:List Tsk):qbl no ts <= ts.length:=by
 induction ts with
 | nil=>simp [qbl]
 | cons x r ih=>simp only [qbl];split <;> simp;omega
theorem qgy {no:Int}:∀ {ts:List Tsk} {k:Nat} {t:Tsk},ts[k]?=some t->decide (no <= t.no)=true->(∀ (j:Nat) (s:Tsk),j < k->ts[j]?=some s->decide (no <= s.no)=false)->qbl no ts=k
 | [],k,t,h,_,_=>by simp at h
 | x::r,0,t,h,hd,_=>by simp at h;subst h;simp only [qbl,hd,if_true]
 | x::r,k+1,t,h,hd,H=>by
  have h0:=H 0 x (by omega) rfl
  simp only [qbl,h0,Bool.false_eq_true,if_false]
  rw [qgy (ts:=r) (k:=k) (t:=t) (by simpa using h) hd (fun j s hj hs=>H (j+1) s (by omega) (by simpa using hs))]
theorem qgz {no:Int}:∀ {ts:List Tsk},(∀ (j:Nat) (s:Tsk),ts[j]?=some s->decide (no <= s.no)=false)->qbl no ts=ts.length
 | [],_=>rfl
 | x::r,H=>by
  have h0:=H 0 x rfl
  simp only [qbl,h0,Bool.false_eq_true,if_false,List.length_cons]
  rw [qgz (ts:=r) (fun j s hs=>H (j+1) s (by simpa using hs))]
theorem qgA (t:Tsk):∀ ts:List Tsk,ins t ts=ts.take (qbl t.no ts)++t::ts.drop (qbl t.no ts)
 | []=>rfl
 | x::r=>by
  simp only [ins,qbl]
  cases h:decide (t.no <= x.no)
  ·simp [qgA t r]
  ·simp
set_option maxHeartbeats 1000000 in
theorem qj0 (a:Option Addr) (cap:Nat) (ts:List Tsk) (no:Int) (w:World) (hl:ts.length <= maxLen) (hs:Ts w a ts) :
  Calls Tryz.prog 218 #[.slice a ts.length cap,.int .i64 no] w fun e w'=>e = .returned (.int .i64 (qbl no ts)) /\ Keeps w w':=by
 unfold maxLen at hl
 generalize hn:ts.length=n at hl
 have Hn:Hid (ts.length=n):=hn
 clear hn
 go_enter Tryz.func218,Tryz.ntmps218
 go_wp2
 go_loopw [9] (fun i wr=>∃ k:Nat,k <= n /\ i = .int .i64 k /\ Keeps w wr /\ Hid (∀ j t,j < k->ts[j]?=some t->decide (no <= t.no)=false)) (fun i _=>n - (intOf i).toNat)
 case atStart=>exact ⟨0,Nat.zero_le _,rfl,Keeps.refl _,fun j t hj=>by omega⟩
 case round =>
  obtain ⟨k,hk,rfl,hK,H⟩:=hrel
  by_cases hlt:k < n
  ·obtain ⟨t,ht⟩:=qbP (xs:=ts) (k:=k) (by rw [Hn.out];exact hlt)
   obtain ⟨b,off,rfl,r0,r1⟩:=hs.at ht (by omega)
   have hlt':(k:Int) < (n:Int):=by omega
   have Ht:Hid (ts[k]?=some t):=ht
   clear hs ht
   cases hq:decide (no <= t.no)
   ·go_wp2
    exact ⟨⟨k+1,by omega,by go_num,hK.alloc _,fun j s hj hs=>by
     by_cases e:j=k
     ·subst e;rw [Ht.out] at hs;cases hs;exact hq
     ·exact H.out j s (by omega) hs⟩,by simp only [intOf];omega⟩
   ·have Hr:Hid (qbl no ts=k):=qgy Ht.out hq H.out
    go_wp2
    go_ret
    exact ⟨by rw [Hr.out];rfl,hK.alloc _⟩
  ·have Hr:Hid (qbl no ts=n):=by
    show _=_
    rw [qgz fun j s hs=>H.out j s (by
     rcases Nat.lt_or_ge j ts.length with h' | h'
     ·have:=Hn.out;omega
     ·simp [List.getElem?_eq_none h'] at hs) hs,Hn.out]
   go_wp2
   go_ret
   exact ⟨by rw [Hr.out];rfl,hK⟩
set_option maxHeartbeats 1000000 in
theorem qj1 (ba off cap:Nat) (ts:List Tsk) (w:World) (hl:ts.length <= 12) (hs:Ts w (some ⟨ba,off,none⟩) ts) :
  Calls Tryz.prog 125 #[.slice (some ⟨ba,off,none⟩) ts.length cap] w fun e w'=>∃ v,e = .returned v /\ OwnT w' w.heap.size v ts /\ Keeps w w':=by
 generalize hn:ts.length=n at hl
 have Hn:Hid (ts.length=n):=hn
 clear hn
 obtain ⟨C,hC,hmk⟩:=qdH (P:=Tryz.prog) 24 43 (tk Tsk.zero) 14 112 Tryz.underlying24 (by kernel_rfl) n (by omega) (by omega)
 have hr0:=Row.new w C 43
 have hs0:=hs.keeps ((Keeps.refl w).alloc (.cells C 43))
 have HC:Hid (C.size=n*14):=hC
 clear hC
 go_enter Tryz.func125,Tryz.ntmps125
 go_upto_region 2 with fail
 have kW:=blkK w (.cells C 43)
 clear hmk hs
 generalize w.alloc (.cells C 43)=W at *
 have hrun:∀ ty,(Builtin.copy_ #[24,24] ty #[.slice (some ⟨w.heap.size,0,none⟩) n n,.slice (some ⟨ba,off,none⟩) n cap]).run Tryz.prog W = .ok (goInt n) (W.setRow w.heap.size (setL C 0 (qae tc ts))):=fun ty=>by
  have:=qdo (P:=Tryz.prog) tc 14 qao (by decide) qbs W 24 24 ty 43 (some ⟨w.heap.size,0,none⟩) (some ⟨ba,off,none⟩) n n n cap C 43 w.heap.size 0 ts Tryz.underlying24 (by kernel_rfl) hr0 (by rw [Hn.out];simp) (fun _=>rfl) hs0 (by rw [Hn.out,HC.out];omega)
  rwa [Hn.out] at this
 have R1:Hid (Row (W.setRow w.heap.size (setL C 0 (qae tc ts))) w.heap.size 43 (qae tc ts).toArray):=by
  have e:=qdQ (L:=qae tc ts) (C:=C) (by rw [qa7 qao,Hn.out,HC.out])
  have:=hr0.setRow (setL C 0 (qae tc ts))
  show Row _ _ _ _
  rw [<- e];exact this
 have K1:Hid (Keeps w (W.setRow w.heap.size (setL C 0 (qae tc ts)))):=kW.setRow (Nat.le_refl _) _
 clear hr0 hs0 kW
 generalize W.setRow w.heap.size (setL C 0 (qae tc ts))=X at *
 go_wp2
 go_ret
 refine ⟨_,rfl,?_,K1.out⟩
 have:=R1.out.own (sz:=14) qao (base:=w.heap.size) (Nat.le_refl _) (by rw [Hn.out];unfold maxLen;omega)
 rwa [Hn.out] at this
theorem qj2 (C:Array Value) (k:Nat):setL C k (qae tc [])=C:=rfl
theorem Lies.part {α:Type} {sz:Nat} {c:α->Array Value} {w:World} {b off:Nat} {xs:List α} (h:Lies sz c w (some ⟨b,off,none⟩) xs) (k:Nat):Lies sz c w (some ⟨b,off,none⟩) (xs.take k):=by
 rcases h with rfl | ⟨b',off',e,hb,h⟩
 ·simp;exact .inl rfl
 ·refine .inr ⟨b',off',e,hb,fun i x hx=>h i x ?_⟩
  rw [List.getElem?_take] at hx
  split at hx
  ·exact hx
  ·cases hx
theorem Lies.rest {α:Type} {sz:Nat} {c:α->Array Value} {w:World} {b off:Nat} {xs:List α} (h:Lies sz c w (some ⟨b,off,none⟩) xs) (k:Nat):Lies sz c w (some ⟨b,off+k*sz,none⟩) (xs.drop k):=by
 rcases h with rfl | ⟨b',off',e,hb,h⟩
 ·simp;exact .inl rfl
 ·simp only [Option.some.injEq,Addr.mk.injEq] at e
  obtain ⟨rfl,rfl,-⟩:=e
  refine .inr ⟨b,_,rfl,hb,fun i x hx m hm => ?_⟩
  rw [List.getElem?_drop] at hx
  have:=h (k+i) x hx m hm
  rw [<- this]
  congr 2
  rw [Nat.add_mul];omega
set_option maxHeartbeats 2000000 in
theorem qj3 (ba off cap:Nat) (ts:List Tsk) (t:Tsk) (w:World) (hl:ts.length <= 12) (hcap:ts.length <= cap) (hs:Ts w (some ⟨ba,off,none⟩) ts) :
  Calls Tryz.prog 210 #[.slice (some ⟨ba,off,none⟩) ts.length cap,tk t] w fun e w'=>∃ g,e = .returned (.slice (some ⟨g,0,none⟩) (ts.length+1) (ts.length+1)) /\ OwnT w' w.heap.size (.slice (some ⟨g,0,none⟩) (ts.length+1) (ts.length+1)) (ins t ts) /\ Keeps w w':=by
 have hlm:ts.length <= maxLen:=by unfold maxLen;omega
 generalize hn:ts.length=n at hl hcap
 have Hn:Hid (ts.length=n):=hn
 clear hn
 obtain ⟨C,hC,hmk⟩:=qdH (P:=Tryz.prog) 24 43 (tk Tsk.zero) 14 112 Tryz.underlying24 (by kernel_rfl) (n+1) (by omega) (by omega)
 have HC:Hid (C.size=(n+1)*14):=hC
 clear hC
 rw [show ((n+1:Nat):Int)=(n:Int)+1 by omega] at hmk
 go_enter Tryz.func210,Tryz.ntmps210
 go_wp2_with fail
 have B0:=Blk.new w (tc t) 43
 have kW:=blkK w (.cells (tc t) 43)
 have hs0:=hs.keeps kW
 have hpf:=qj0 (some ⟨ba,off,none⟩) cap ts t.no _ hlm hs0
 rw [Hn.out] at hpf
 refine hpf.mono ?_
 clear hpf
 rintro e w1 ⟨rfl,k1⟩
 have HK:Hid (qbl t.no ts <= n):=by have:=qjZ t.no ts;rw [Hn.out] at this;exact this
 have HI:Hid (ins t ts=ts.take (qbl t.no ts)++t::ts.drop (qbl t.no ts)):=qgA t ts
 generalize qbl t.no ts=k at *
 have hkn:k <= n:=HK.out
 have B1:=B0.keeps k1
 have hs1:=hs0.keeps k1
 have K1:Hid (Keeps w w1):=kW.trans k1
 clear B0 kW hs0 k1 hs
 go_upto_region 3 with fail
 have R0:=Row.new w1 C 43
 have kW:=blkK w1 (.cells C 43)
 have hwg:w.heap.size < w1.heap.size:=B1.lt
 clear hmk
 generalize w1.alloc (.cells C 43)=W1 at *
 obtain ⟨g,Hg⟩:∃ g,Hid (w1.heap.size=g):=⟨_,rfl⟩
 have hgl:w1.heap.size <= g:=by have:=Hg.out;omega
 rw [Hg.out] at R0 ⊢
 have hrun1:∀ ty,(Builtin.copy_ #[24,24] ty #[.slice (some ⟨g,0,none⟩) (n+1) (n+1),.slice (some ⟨ba,off,none⟩) k cap]).run Tryz.prog W1 = .ok (goInt k) (W1.setRow g (setL C 0 (qae tc (ts.take k)))):=fun ty=>by
  have:=qdo (P:=Tryz.prog) tc 14 qao (by decide) qbs W1 24 24 ty 43 (some ⟨g,0,none⟩) (some ⟨ba,off,none⟩) (n+1) (n+1) k cap C 43 g 0 (ts.take k) Tryz.underlying24 (by kernel_rfl) R0 (by simp only [List.length_take,Hn.out];show _=min _ _;omega) (fun _=>rfl) ((hs1.keeps kW).part k) (by simp only [List.length_take,Hn.out,HC.out];omega)
  rwa [show (ts.take k).length=k by simp only [List.length_take,Hn.out];omega] at this
 have R1:=R0.setRow (setL C 0 (qae tc (ts.take k)))
 have kX:=kW.setRow hgl (setL C 0 (qae tc (ts.take k)))
 have HC1:Hid ((setL C 0 (qae tc (ts.take k))).size=(n+1)*14):=by show _=_;rw [qdO];exact HC.out
 obtain ⟨C1,E1⟩:∃ C1,Hid (setL C 0 (qae tc (ts.take k))=C1):=⟨_,rfl⟩
 rw [E1.out] at R1 kX HC1 hrun1
 clear R0 kW
 generalize W1.setRow g C1=X1 at *
 have bx:∀ m,X1.cell? ⟨w.heap.size,m,none⟩=(tc t)[m]?:=(B1.keeps kX).cells
 have s0:X1.cell? ⟨g,k*14,none⟩=some (C1.getD (k*14) undef):=by
  rw [R1.cell];have:=HC1.out;rw [Array.getElem?_eq_getElem (by omega)];simp [Array.getD,show k*14 < C1.size by omega]
 have s1:∀ m,m < 14->X1.cell? ⟨g,k*14+m,none⟩=some (C1.getD (k*14+m) undef):=fun m hm=>by
  rw [R1.cell];have:=HC1.out;rw [Array.getElem?_eq_getElem (by omega)];simp [Array.getD,show k*14+m < C1.size by omega]
 have s2:∀ m,X1.frozen? ⟨g,m,none⟩=false:=R1.frozen
 have hkl:(k:Int) < (n:Int)+1:=by omega
 have hkc:k <= cap:=by omega
 have HR1:Hid (Row X1 g 43 C1):=R1
 have HkX:Hid (Keeps w1 X1):=kX
 clear R1 kX
 go_upto_region 5 with fail
 clear hrun1 bx s0 s1 s2
 have R2:=HR1.out.putC (tc t).toList (k*14)
 have k2:=Keeps.putC hgl (tc t).toList (k*14) HkX.out
 change Code.wp _ _ _ _ (putC X1 g (k*14) (tc t).toList)
 generalize putC X1 g (k*14) (tc t).toList=X2 at *
 have HX:∀ X:World,Keeps w1 X->Row X g 43 (setL (setL C1 (k*14) (tc t).toList) ((k+1)*14) (qae tc (ts.drop k)))->OwnT X w.heap.size (.slice (some ⟨g,0,none⟩) (n+1) (n+1)) (ins t ts) /\ Keeps w X:=fun X kX rX=>by
  refine ⟨?_,K1.out.trans kX⟩
  have hA:(qae tc (ts.take k)).length=k*14:=by rw [qa7 qao];simp only [List.length_take,Hn.out];congr 1;omega
  have hD:(qae tc (ts.drop k)).length=(n - k)*14:=by rw [qa7 qao];simp only [List.length_drop,Hn.out]
  have e:=qiB C (qae tc (ts.take k)) (tc t).toList (qae tc (ts.drop k)) (by rw [hA,hD,HC.out];simp;omega)
  rw [hA,E1.out,show (tc t).toList.length=14 from rfl,show k*14+14=(k+1)*14 by omega] at e
  rw [e] at rX
  have e2:qae tc (ins t ts)=qae tc (ts.take k)++((tc t).toList++qae tc (ts.drop k)):=by rw [HI.out,qeI];rfl
  rw [<- e2] at rX
  have:=rX.own (sz:=14) qao (base:=w.heap.size) (by omega) (by rw [qcU,Hn.out];unfold maxLen;omega)
  rwa [qcU,Hn.out] at this
 by_cases hkn':k=n
 ·have hrun2:∀ ty d a dl dc sc,(Builtin.copy_ #[24,24] ty #[.slice d dl dc,.slice a 0 sc]).run Tryz.prog X2.drew = .ok (goInt 0) X2.drew:=fun ty d a dl dc sc=>qeV X2.drew _ _ ty 43 d a 14 dl dc 0 sc Tryz.underlying24 (by kernel_rfl) (by simp)
  have hX:=HX X2.drew k2.drew (by
   have e:ts.drop k=[]:=List.drop_eq_nil_of_le (by rw [Hn.out];omega)
   rw [e,qj2];exact R2.keeps (Keeps.refl _).drew)
  have HX2:Hid (OwnT X2.drew w.heap.size (.slice (some ⟨g,0,none⟩) (n+1) (n+1)) (ins t ts) /\ Keeps w X2.drew):=hX
  clear hX HX
  subst hkn'
  go_region
  go_wp2
  all_goals (go_ret;exact ⟨g,rfl,HX2.out⟩)
 ·have hk1:k < n:=by omega
  have hne:¬ cap=k:=by omega
  have hX:=HX (X2.drew.setRow g (setL (setL C1 (k*14) (tc t).toList) ((k+1)*14) (qae tc (ts.drop k)))) (k2.drew.setRow hgl _) ((R2.keeps (Keeps.refl _).drew).setRow _)
  have hrun2:∀ ty,(Builtin.copy_ #[24,24] ty #[.slice (some ⟨g,(k+1)*14,none⟩) (n - k) (n - k),.slice (some ⟨ba,off+k*14,none⟩) (n - k) (cap - k)]).run Tryz.prog X2.drew = .ok (goInt ((n - k:Nat):Int)) (X2.drew.setRow g (setL (setL C1 (k*14) (tc t).toList) ((k+1)*14) (qae tc (ts.drop k)))):=fun ty=>by
   have:=qdo (P:=Tryz.prog) tc 14 qao (by decide) qbs X2.drew 24 24 ty 43 (some ⟨g,(k+1)*14,none⟩) (some ⟨ba,off+k*14,none⟩) (n - k) (n - k) (n - k) (cap - k) _ 43 g ((k+1)*14) (ts.drop k) Tryz.underlying24 (by kernel_rfl) (R2.keeps (Keeps.refl _).drew) (by simp only [List.length_drop,Hn.out];show _=min _ _;omega) (fun _=>rfl) ((hs1.keeps k2.drew).rest k) (by simp only [List.length_drop,Hn.out,qdO,HC1.out];omega)
   rwa [show (ts.drop k).length=n - k by simp only [List.length_drop,Hn.out]] at this
  generalize X2.drew.setRow g (setL (setL C1 (k*14) (tc t).toList) ((k+1)*14) (qae tc (ts.drop k)))=X3 at *
  have HX2:Hid (OwnT X3 w.heap.size (.slice (some ⟨g,0,none⟩) (n+1) (n+1)) (ins t ts) /\ Keeps w X3):=hX
  clear hX HX
  go_region
  go_wp2
  all_goals (go_ret;exact ⟨g,rfl,HX2.out⟩)
set_option maxHeartbeats 2000000 in
theorem qj4:qmz:=by
 intro ba off cap ts t w hl hcap hs
 have hlm:ts.length <= maxLen:=hl
 unfold maxLen at hl
 generalize hn:ts.length=n at hl hcap
 have Hn:Hid (ts.length=n):=hn
 clear hn
 go_enter Tryz.func187,Tryz.ntmps187
 go_wp2_with fail
 have kW:Keeps w (w.alloc (.cells (tc t) 43)):=(Keeps.refl _).alloc _
 have B0:=Blk.new w (tc t) 43
 have hs0:=hs.keeps kW
 have c1:=qfc (some ⟨ba,off,none⟩) cap ts _ hlm hs0
 rw [Hn.out] at c1
 refine c1.mono ?_
 clear c1
 rintro e w1 ⟨rfl,k1⟩
 have B1:=B0.keeps k1
 have hs1:=hs0.keeps k1
 have kw1:=kW.trans k1
 clear kW B0 hs0 k1 hs
 cases hb:qav ts
 ·have Hb:Hid (putB ts t=false):=by show _=_;simp [putB,hb]
  have Hp:Hid (putL ts t=[]):=by show _=_;simp [putL,hb]
  go_wp2
  go_ret2
  exact ⟨_,by rw [Hb.out];rfl,by rw [Hp.out];exact ⟨rfl,.inl ⟨rfl,rfl⟩⟩,kw1⟩
 ·have h12:n <= 12:=by rw [<- Hn.out];exact qeQ hb
  have Hts:Hid (qav ts=true):=hb
  clear hb
  obtain ⟨_,b1,b2⟩:=B1
  go_wp2_with fail
  have c2:=qj3 ba off cap ts t w1 (by rw [Hn.out];exact h12) (by rw [Hn.out];exact hcap) hs1
  rw [Hn.out] at c2
  refine c2.mono ?_
  clear c2
  rintro e w2 ⟨g,rfl,own2,k2⟩
  have hil:Hid ((ins t ts).length=n+1):=by show _=_;rw [qcU,Hn.out]
  have hl2:Lies 14 tc w2 (some ⟨g,0,none⟩) (ins t ts):=by
   obtain ⟨a,c,e,l,-,-⟩:=own2.slice qao
   simp only [Value.slice.injEq] at e
   obtain ⟨rfl,-,-⟩:=e
   exact l
  have O2:Hid (OwnT w2 w1.heap.size (.slice (some ⟨g,0,none⟩) (n+1) (n+1)) (ins t ts)):=own2
  have hs2:=hs1.keeps k2
  have kw2:=kw1.trans k2
  have hw1:=kw1.size
  clear own2 hs1 k2 b1 b2
  go_wp2_with fail
  have c3:=qfc (some ⟨g,0,none⟩) (n+1) (ins t ts) w2 (by rw [hil.out];unfold maxLen;omega) hl2
  rw [hil.out] at c3
  refine c3.mono ?_
  clear c3
  rintro e w3 ⟨rfl,k3⟩
  cases hb:qav (ins t ts)
  ·have Hb:Hid (putB ts t=false):=by show _=_;simp [putB,hb]
   have Hp:Hid (putL ts t=ts):=by show _=_;simp [putL,hb,Hts.out]
   go_wp2_with fail
   have c4:=qj1 ba off cap ts w3 (by rw [Hn.out];exact h12) (hs2.keeps k3)
   rw [Hn.out] at c4
   refine c4.mono ?_
   clear c4
   rintro e w4 ⟨v,rfl,own4,k4⟩
   have O4:Hid (OwnT w4 w3.heap.size v ts):=own4
   clear own4
   go_wp2
   go_ret2
   exact ⟨_,by rw [Hb.out];rfl,by rw [Hp.out];exact O4.out.base (kw2.trans k3).size,(kw2.trans k3).trans k4⟩
  ·have Hb:Hid (putB ts t=true):=by show _=_;simp [putB,hb,Hts.out]
   have Hp:Hid (putL ts t=ins t ts):=by show _=_;simp [putL,hb,Hts.out]
   go_wp2
   go_ret2
   exact ⟨_,by rw [Hb.out];rfl,by rw [Hp.out];exact (O2.out.keeps k3).base hw1,kw2.trans k3⟩
end Go.Proofs.YteagpjlgjfaclaaGreatDoor
