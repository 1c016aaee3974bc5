/-
  The variable errors.errorType and the program's six errors,
  A list of tasks: the program's TasksOk.
-/
import Derived.Test.YteagpjlgjfaclaaGreatDoorLate
import Derived.Test.YteagpjlgjfaclaaGreatDoorErrIs
import Derived.Test.YteagpjlgjfaclaaGreatDoorDueSpec
import Derived.ChangeSame
import Derived.ChangeVars
import Derived.OpenVars
import Derived.JoinedOf
import Derived.RowKitTokens
import Derived.LaidLaws
import Derived.LaidHandle
import Derived.LaidMore
import Derived.Stop.LaidErr
import Derived.Stop.LaidTwo
import Derived.Stop.Joined
import Derived.Test.YteagpjlgjfaclaaGreatDoorImplTaskOk
import Derived.Test.YteagpjlgjfaclaaGreatDoorLoneLeaves
namespace Go.Proofs.YteagpjlgjfaclaaGreatDoor
set_option maxRecDepth 100000
set_option maxRecDepth 100000
section
open Go.ChangeShapes Go.WideShapes Go.RowKit
abbrev vZ:List (String × DataW Unit):=[("loop.example/g00185/impl.errBad",Rows.laid_loop_example_g00185_impl_errBad),("loop.example/g00185/impl.errNone",Rows.laid_loop_example_g00185_impl_errNone),("loop.example/g00185/impl.errKnown",Rows.laid_loop_example_g00185_impl_errKnown),("loop.example/g00185/impl.errFull",Rows.laid_loop_example_g00185_impl_errFull),("loop.example/g00185/impl.errState",Rows.laid_loop_example_g00185_impl_errState),("loop.example/g00185/impl.errCycle",Rows.laid_loop_example_g00185_impl_errCycle)]
abbrev oP:List (String × DataW Unit):=("errors.errorType",Rows.laid_errors_errorType)::vZ
theorem LG:Tryz.prog.globalNamed "errors.errorType" = some 0:=by kernel_rfl
theorem LI:(Tryz.prog.cutTypes.find? (·.1 == "internal/reflectlite.rtype")).map (·.2)=some 152:=by kernel_rfl
theorem LJ:((List.range Tryz.prog.types.size).filter fun t=>Tryz.prog.rowNamed t [101,114,114,111,114])=[63]:=by kernel_rfl
theorem LK:typeHandle Tryz.prog 63 = .pointer (some ⟨7,63,none⟩):=by kernel_rfl
theorem Bw {W:World} (h:laidMetH Tryz.prog oP W):laidMet Tryz.prog vZ W /\ handlesMet Tryz.prog [("errors.errorType",Rows.laid_errors_errorType)] W:=h
theorem LL {W:World} (h:laidMetH Tryz.prog oP W):dF W:=by
 obtain ⟨name,u,ty,e1,e2,e3,e4,e5⟩:=(Bw h).2 _ (List.mem_singleton.2 rfl)
 have en:name=[101,114,114,111,114]:=(Option.some.inj e1).symm
 subst en
 obtain rfl:=Option.some.inj (LI.symm.trans e2)
 have hm:ty∈(List.range Tryz.prog.types.size).filter fun t=>Tryz.prog.rowNamed t [101,114,114,111,114]:=List.mem_filter.2 ⟨List.mem_range.2 e3,e4⟩
 rw [LJ] at hm
 obtain rfl:=List.mem_singleton.1 hm
 rw [LK] at e5
 unfold dF
 simpa using World.var?_cell LG e5 0
theorem ij {P:Program} {x y:String × DataW Unit} {r:List (String × DataW Unit)} {w:World} (h:laidMet P (x::y::r) w):laidMet P (x::r) w:=by
 obtain ⟨ps,hv,hnd,hrows⟩:=h
 obtain ⟨n,d⟩:=x
 obtain ⟨m,e⟩:=y
 obtain ⟨g,t,cs,fuel,p,q,h1,h2,h3,h4,⟨g',t',cs',fuel',p',q',_,_,_,_,hq,rfl⟩,rfl⟩:=hv
 have hsub:(MemPlace.row ⟨g,0,none⟩ cs.size++p++q').Sublist (MemPlace.row ⟨g,0,none⟩ cs.size++p++(MemPlace.row ⟨g',0,none⟩ cs'.size++p'++q')):=List.Sublist.append (List.Sublist.refl _) (List.sublist_append_right _ _)
 exact ⟨_,⟨g,t,cs,fuel,p,q',h1,h2,h3,h4,hq,rfl⟩,List.Nodup.sublist hsub hnd,fun b off hm=>hrows b off (hsub.subset hm)⟩
def Duo (W:World) (i j:Nat):Prop:=∃ a b:Addr,W.cell? ⟨i,0,none⟩=some (.iface 284 (.pointer (some a))) /\ W.cell? ⟨j,0,none⟩=some (.iface 284 (.pointer (some b))) /\ a≠b /\
 (∃ c t,W.heap[a.block]?=some (.cells c t (0,0))) /\ ∃ c t,W.heap[b.block]?=some (.cells c t (0,0))
theorem By : "*" ++ "errors.errorString" = "*errors.errorString" := by decide
theorem LM (u:TypeId) (h:Tryz.prog.typeName? 3 u=some "*errors.errorString"):u=284 :=
 typeName_ptr_named (nm := "errors.errorString") (by rw [By];kernel_rfl) (by kernel_rfl) (by decide) u (by rw [By];exact h)
theorem jt {n0 n1:String} {text0 text1:List UInt8} {r:List (String × DataW Unit)} {W:World} {g0 g1:Nat}
  (h:laidMet Tryz.prog ((n0,.iface "*errors.errorString" (.ptr (.agg [.lit (.string text0)])))::(n1,.iface "*errors.errorString" (.ptr (.agg [.lit (.string text1)])))::r) W)
  (hg0:Tryz.prog.globalNamed n0=some g0) (ht0:(Tryz.prog.globals[g0]?).map (·.type)=some 63) (hg1:Tryz.prog.globalNamed n1=some g1) (ht1:(Tryz.prog.globals[g1]?).map (·.type)=some 63):Duo W g0 g1:=by
 obtain ⟨a,b,s0,s1,c0,c1,t0,t1,hv0,hv1,_,_,_,_,_,_,hne,hb0,hb1⟩:=laid_sentinels2 (ti:=63) (tp:=284) (te:=324) (ts:=9) h hg0 ht0 hg1 ht1 Tryz.underlying63 LM Tryz.underlying284 Tryz.underlying324 rfl rfl Tryz.underlying9 (by kernel_rfl) (by kernel_rfl)
 exact ⟨a,b,by simpa using World.var?_cell hg0 hv0 0,by simpa using World.var?_cell hg1 hv1 0,hne,⟨_,_,hb0⟩,⟨_,_,hb1⟩⟩
theorem rK:Tryz.prog.globalNamed "loop.example/g00185/impl.errBad" = some 1:=by kernel_rfl
theorem at2:Tryz.prog.globalNamed "loop.example/g00185/impl.errNone" = some 2:=by kernel_rfl
theorem at3:Tryz.prog.globalNamed "loop.example/g00185/impl.errKnown" = some 3:=by kernel_rfl
theorem at4:Tryz.prog.globalNamed "loop.example/g00185/impl.errFull" = some 4:=by kernel_rfl
theorem rM:Tryz.prog.globalNamed "loop.example/g00185/impl.errState" = some 5:=by kernel_rfl
theorem rN:Tryz.prog.globalNamed "loop.example/g00185/impl.errCycle" = some 6:=by kernel_rfl
theorem rP:(Tryz.prog.globals[1]?).map (·.type)=some 63:=by kernel_rfl
theorem rQ:(Tryz.prog.globals[2]?).map (·.type)=some 63:=by kernel_rfl
theorem rR:(Tryz.prog.globals[3]?).map (·.type)=some 63:=by kernel_rfl
theorem rS:(Tryz.prog.globals[4]?).map (·.type)=some 63:=by kernel_rfl
theorem rU:(Tryz.prog.globals[5]?).map (·.type)=some 63:=by kernel_rfl
theorem rV:(Tryz.prog.globals[6]?).map (·.type)=some 63:=by kernel_rfl
theorem v9 {W:World} (h:laidMet Tryz.prog vZ W) (i j:Nat) (h1:1 <= i) (h2:i < j) (h3:j <= 6):Duo W i j:=by
 have d1:=h
 have d2:=d1.tail
 have d3:=d2.tail
 have d4:=d3.tail
 have d5:=d4.tail
 have a12:=jt d1 rK rP at2 rQ
 have Bz:=jt (ij d1) rK rP at3 rR
 have PC:=jt (ij (ij d1)) rK rP at4 rS
 have PD:=jt (ij (ij (ij d1))) rK rP rM rU
 have a16:=jt (ij (ij (ij (ij d1)))) rK rP rN rV
 have a23:=jt d2 at2 rQ at3 rR
 have a24:=jt (ij d2) at2 rQ at4 rS
 have a25:=jt (ij (ij d2)) at2 rQ rM rU
 have a26:=jt (ij (ij (ij d2))) at2 rQ rN rV
 have a34:=jt d3 at3 rR at4 rS
 have a35:=jt (ij d3) at3 rR rM rU
 have a36:=jt (ij (ij d3)) at3 rR rN rV
 have a45:=jt d4 at4 rS rM rU
 have a46:=jt (ij d4) at4 rS rN rV
 have a56:=jt d5 rM rU rN rV
 clear d1 d2 d3 d4 d5
 have hj:j=2∨j=3∨j=4∨j=5∨j=6:=by omega
 have hi:i=1∨i=2∨i=3∨i=4∨i=5:=by omega
 rcases hi with rfl | rfl | rfl | rfl | rfl <;> rcases hj with rfl | rfl | rfl | rfl | rfl <;> first | omega | assumption
def oQ (W:World) (k:Nat):Addr:=match W.cell? ⟨k,0,none⟩ with
 | some (.iface _ (.pointer (some a)))=>a
 | _=>⟨0,0,none⟩
theorem p6 {W:World} {k:Nat} {t:TypeId} {a:Addr} (h:W.cell? ⟨k,0,none⟩=some (.iface t (.pointer (some a)))):oQ W k=a:=by
 unfold oQ
 rw [h]
theorem LN {W:World} (h:laidMetH Tryz.prog oP W):dZ W (oQ W):=by
 have d:=v9 (Bw h).1
 have one:∀ k,1 <= k->k <= 6->∃ a:Addr,W.cell? ⟨k,0,none⟩=some (.iface 284 (.pointer (some a))) /\ ∃ c t,W.heap[a.block]?=some (.cells c t (0,0)):=by
  intro k h1 h6
  by_cases e:k=6
  ·subst e
   obtain ⟨a,b,_,hb,_,_,lb⟩:=d 5 6 (by omega) (by omega) (by omega)
   exact ⟨b,hb,lb⟩
  ·obtain ⟨a,b,ha,_,_,la,_⟩:=d k 6 h1 (by omega) (by omega)
   exact ⟨a,ha,la⟩
 refine ⟨fun k h1 h6 => ?_,?_,fun j k j1 j6 k1 k6 hne => ?_,fun k h1 h6 => ?_⟩
 ·obtain ⟨a,ha,_⟩:=one k h1 h6
  rw [p6 ha]
  exact ha
 ·obtain ⟨a,ha,_⟩:=one 6 (by omega) (by omega)
  exact World.block_lt_of_cell? W _ ha
 ·rcases Nat.lt_or_gt_of_ne hne with hl | hl
  ·obtain ⟨a,b,ha,hb,n,_,_⟩:=d j k j1 hl k6
   rw [p6 ha,p6 hb]
   exact n
  ·obtain ⟨a,b,ha,hb,n,_,_⟩:=d k j k1 hl j6
   rw [p6 ha,p6 hb]
   exact n.symm
 ·obtain ⟨a,ha,la⟩:=one k h1 h6
  rw [p6 ha]
  exact la
theorem LP (os:Os) (args:Array Value):laidMetH Tryz.prog oP ((World.doorLaid Tryz.prog 400 os).forCall (fun _ _=>0) ⟨#[],args,[]⟩).memory :=
 laidMetH_of_parts3 (fuel:=8) (laidMet_of_run' 8 (by kernel_rfl) (by kernel_rfl)) (by kernel_rfl) (by kernel_rfl)
end
section
open Go.RowKit
attribute [local go_sem] aa.refl aa.alloc aa.drew aa.drewN
theorem LQ {ts:List ag} (h:12 < ts.length):di ts=false:=by
 have:decide (ts.length <= 12)=false:=by simp;omega
 simp [di,this]
set_option maxHeartbeats 4000000 in
theorem Bj:LR:=by
 intro a cap ts w hl hs
 unfold maxLen at hl
 generalize hn:ts.length=n at hl
 have Hn:Hid (ts.length=n):=hn
 clear hn
 by_cases h12:n <= 12
 case neg =>
  have hd:decide (12 < (n:Int))=true:=by simp;omega
  have Hr:Hid (di ts=false):=LQ (by rw [Hn.out];omega)
  go_enter Tryz.func33,Tryz.ntmps33
  go_wp2
  go_ret
  exact ⟨by rw [Hr.out];rfl,aa.refl _⟩
 have hd:decide (12 < (n:Int))=false:=by simp;omega
 go_enter Tryz.func33,Tryz.ntmps33
 go_wp2
 go_loopw [10] (fun i wr=>∃ k:Nat,k <= n /\ i = .int .i64 k /\ aa w wr /\ Hid (∀ j t,j < k->ts[j]?=some t->aY t=true) /\ Hid (∀ j s t,j+1 < k->ts[j]?=some s->ts[j+1]?=some t->s.no < t.no)) (fun i _=>n - (intOf i).toNat)
 case atStart=>exact ⟨0,Nat.zero_le _,rfl,aa.refl _,fun j t hj=>by omega,fun j s t hj=>by omega⟩
 case round =>
  obtain ⟨k,hk,rfl,hK,H1,H2⟩:=hrel
  by_cases hlt:k < n
  ·obtain ⟨t,ht⟩:=iW (xs:=ts) (k:=k) (by rw [Hn.out];exact hlt)
   have hlt':(k:Int) < (n:Int):=by omega
   have Ht:Hid (ts[k]?=some t):=ht
   have kW:aa w (wr.alloc (.cells (tc t) 43)):=hK.alloc _
   have q1:=dE wr (tc t) 43
   have K0:=aa.refl (wr.alloc (.cells (tc t) 43))
   cases hb:aY t
   ·obtain ⟨b,off,rfl,r0,r1⟩:=hs.at ht (by omega)
    have Hr:Hid (di ts=false):=AU ht hb
    clear hs ht
    go_wp2_with fail
    clear r0 r1 hK
    generalize wr.alloc (.cells (tc t) 43)=W at *
    generalize wr.heap.size=s at *
    refine wp_region_held_drew (S:=(fun w'=>aa W w')) (by kernel_rfl) ?_ (fun hHeld => ?_)
    ·exact K0.drew
    refine cU 0 (h := ?_)
    try simp only [ar]
    refine aO 1 (h:=fun K hK => ?_)
    go_simp
    first
     | (go_at_call 74;refine (ml t _).mono ?_;rintro e w' ⟨rfl,hkk⟩;rw [hb])
    try go_wp2_with fail
    refine hK.out _ _ ?_ fun hHeld => ?_
    ·exact aa.trans (by assumption) (by assumption)
    clear hK K
    try simp only [ar]
    refine ad.go [2,3] ?_
    iterate 2 (refine aJ (h := ?_);try simp only [ar])
    refine ad.nil ?_
    refine ad.go [4,5,6,7,8,9,10,11,12,13,14,15,16] ?_
    iterate 13 (refine dB (h := ?_);try simp only [ar])
    refine ad.nil ?_
    refine cU 17 (h := ?_)
    try simp only [ar]
    refine wpAnyH_done (by kernel_rfl) ?_ _
    go_wp2
    go_ret
    exact ⟨by rw [Hr.out];rfl,kW.trans (by assumption)⟩
   ·rcases Nat.eq_zero_or_pos k with h0 | h0
    ·obtain ⟨b,off,rfl,r0,r1⟩:=hs.at ht (by omega)
     have hz:decide (0 < k)=false:=by simp;omega
     have H0:Hid (k=0):=h0
     clear hs ht h0
     go_wp2_with fail
     clear r0 r1 hK
     generalize wr.alloc (.cells (tc t) 43)=W at *
     generalize wr.heap.size=s at *
     refine wp_region_held_drew (S:=(fun w'=>aa W w')) (by kernel_rfl) ?_ (fun hHeld => ?_)
     ·exact K0.drew
     refine cU 0 (h := ?_)
     try simp only [ar]
     refine aO 1 (h:=fun K hK => ?_)
     go_simp
     first
      | (go_at_call 74;refine (ml t _).mono ?_;rintro e w' ⟨rfl,hkk⟩;rw [hb])
     try go_wp2_with fail
     refine hK.out _ _ ?_ fun hHeld => ?_
     ·exact aa.trans (by assumption) (by assumption)
     clear hK K
     try simp only [ar]
     refine ad.go [2,3,4,5,6] ?_
     iterate 5 (refine aJ (h := ?_);try simp only [ar])
     refine ad.nil ?_
     refine ad.go [7,8,9,10,11,12,13,14,15] ?_
     iterate 9 (refine dB (h := ?_);try simp only [ar])
     refine ad.nil ?_
     refine ad.go [16,17] ?_
     iterate 2 (refine aJ (h := ?_);try simp only [ar])
     refine ad.nil ?_
     refine wpAnyH_done (by kernel_rfl) ?_ _
     go_wp2
     exact ⟨⟨k+1,by omega,by go_num,kW.trans (by assumption),fun j s hj hjs=>by
      obtain rfl:j=k:=by have:=H0.out;omega
      rw [Ht.out] at hjs;cases hjs;exact hb,fun j s u hj=>by have:=H0.out;omega⟩,by simp only [intOf];omega⟩
    ·obtain ⟨m,hm⟩:∃ m,k=m+1:=⟨k - 1,by omega⟩
     obtain ⟨s,hs1⟩:=iW (xs:=ts) (k:=m) (by rw [Hn.out];omega)
     obtain ⟨b,off,rfl,r0,r1⟩:=hs.at ht (by omega)
     obtain ⟨b',off',e',p0,p1⟩:=hs.at hs1 (by omega)
     simp only [Option.some.injEq,Addr.mk.injEq] at e'
     obtain ⟨rfl,rfl,-⟩:=e'
     have Hs:Hid (ts[m]?=some s):=hs1
     have hk1:(m:Int) < (n:Int):=by omega
     have hp:0 < k:=h0
     have hm1:(k:Int) - 1=(m:Int):=by omega
     have hw:IntKind.i64.wrap (m:Int)=(m:Int):=Go.IntWalk.i64_in _ (by omega)
     have Hm:Hid (k=m+1):=hm
     have p2:∀ w',aa (wr.alloc (.cells (tc t) 43)) w'->w'.cell? ⟨b,off+m*14,none⟩=(tc s)[0]?:=fun w' h=>p0 w' (kW.trans h)
     clear hs ht hs1 p0 p1 hm h0
     cases hd:decide (t.no <= s.no)
     ·go_wp2_with fail
      clear r0 r1 hK
      generalize wr.alloc (.cells (tc t) 43)=W at *
      generalize wr.heap.size=g at *
      refine wp_region_held_drew (S:=(fun w'=>aa W w')) (by kernel_rfl) ?_ (fun hHeld => ?_)
      ·exact K0.drew
      refine cU 0 (h := ?_)
      try simp only [ar]
      refine aO 1 (h:=fun K hK => ?_)
      go_simp
      first
       | (go_at_call 74;refine (ml t _).mono ?_;rintro e w' ⟨rfl,hkk⟩;rw [hb])
      try go_wp2_with fail
      refine hK.out _ _ ?_ fun hHeld => ?_
      ·exact aa.trans (by assumption) (by assumption)
      clear hK K
      try simp only [ar]
      refine ad.go [2,3,4,5,6,7,8,9,10,11,12,13,14,15,16,17] ?_
      iterate 16 (refine aJ (h := ?_);try simp only [ar])
      refine ad.nil ?_
      refine wpAnyH_done (by kernel_rfl) ?_ _
      go_wp2
      exact ⟨⟨k+1,by omega,by go_num,kW.trans (by assumption),fun j x hj oL=>by
       by_cases e:j=k
       ·subst e;rw [Ht.out] at oL;cases oL;exact hb
       ·exact H1.out j x (by omega) oL,fun j x y hj hx hy=>by
       have hk:=Hm.out
       by_cases e:j=m
       ·subst e;rw [<- hk] at hy;rw [Hs.out] at hx;rw [Ht.out] at hy;cases hx;cases hy
        have:=of_decide_eq_false hd;omega
       ·exact H2.out j x y (by omega) hx hy⟩,by simp only [intOf];omega⟩
     ·have Hr:Hid (di ts=false):=AV Hs.out (by rw [<- Hm.out];exact Ht.out) (of_decide_eq_true hd)
      go_wp2_with fail
      clear r0 r1 hK
      generalize wr.alloc (.cells (tc t) 43)=W at *
      generalize wr.heap.size=g at *
      refine wp_region_held_drew (S:=(fun w'=>aa W w')) (by kernel_rfl) ?_ (fun hHeld => ?_)
      ·exact K0.drew
      refine cU 0 (h := ?_)
      try simp only [ar]
      refine aO 1 (h:=fun K hK => ?_)
      go_simp
      first
       | (go_at_call 74;refine (ml t _).mono ?_;rintro e w' ⟨rfl,hkk⟩;rw [hb])
      try go_wp2_with fail
      refine hK.out _ _ ?_ fun hHeld => ?_
      ·exact aa.trans (by assumption) (by assumption)
      clear hK K
      try simp only [ar]
      refine ad.go [2,3,4,5,6,7,8,9,10,11,12,13,14,15,16,17] ?_
      iterate 16 (refine aJ (h := ?_);try simp only [ar])
      refine ad.nil ?_
      refine wpAnyH_done (by kernel_rfl) ?_ _
      go_wp2
      go_ret
      exact ⟨by rw [Hr.out];rfl,kW.trans (by assumption)⟩
  ·have Hr:Hid (di ts=true):=by
    show _=_
    have hh:∀ (j:Nat) (t:ag),ts[j]?=some t->j < k:=fun j t h=>by
     rcases Nat.lt_or_ge j ts.length with h' | h'
     ·have:=Hn.out;omega
     ·simp [List.getElem?_eq_none h'] at h
    rw [AW (fun j t h=>H1.out j t (hh j t h) h) (fun j s t h1 h2=>H2.out j s t (hh _ t h2) h1 h2),Hn.out]
    simp [h12]
   go_wp2
   go_ret
   exact ⟨by rw [Hr.out];rfl,hK⟩
end
end Go.Proofs.YteagpjlgjfaclaaGreatDoor
