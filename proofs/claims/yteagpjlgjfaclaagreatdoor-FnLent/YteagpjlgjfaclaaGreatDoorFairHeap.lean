/-
  The program's heap of those that share fairly: one more is
  Fair shares, the program's side: those that share fairly, o
  Calls: which are right, and the walk of FnExactCallOk, over
  What three laws want of calls as plain functions: a part of
  Fair shares, the program's side: who had least.
-/
import Derived.Test.YteagpjlgjfaclaaGreatDoorImplHead
import Derived.Test.YteagpjlgjfaclaaGreatDoorLockSpec2
import Derived.Test.YteagpjlgjfaclaaGreatDoorLoneLeaves
import Derived.Test.YteagpjlgjfaclaaGreatDoorCallDo0
import Derived.RangeFuncNested
import Derived.RangeFuncBound
import Derived.RangeFuncCalls
import Derived.RangeFuncLeaves
import Derived.Shelf.Abstract
import Derived.Shelf.RegionOpen
import Derived.OwnWalkIn
import Derived.TacticsInMore
import Derived.LoopNIn
import Derived.LoopIn
import Derived.Test.YteagpjlgjfaclaaGreatDoorSysNewS
import Derived.Test.YteagpjlgjfaclaaGreatDoorImplTaskOk
namespace Go.Proofs.YteagpjlgjfaclaaGreatDoor
set_option maxRecDepth 100000
section
open Go.RowKit
attribute [local go_sem] aa.refl aa.alloc aa.drew aa.drewN
theorem mD (t:ag):(aV t).size=7:=rfl
theorem IW (t:ag):∀ u∈(aV t).toList,u.oneCell'=true:=by
 intro u hu
 simp at hu
 rcases hu with rfl | rfl | rfl | rfl | rfl | rfl | rfl <;> rfl
set_option maxHeartbeats 1000000 in
theorem As (a b:ag) (w:World) :
  Calls Tryz.prog 328 #[.agg (aV a),.agg (aV b)] w fun e w'=>e = .returned (.bool (cY a b)) /\ aa w w':=by
 cases h1:decide (a.v < b.v)
 ·cases h2:(a.v==b.v)
  ·have Hr:Hid (cY a b=false):=by show _=_;simp only [cY,h1,h2,Bool.false_and,Bool.or_false]
   go_enter Tryz.func328,Tryz.ntmps328
   go_wp2
   go_ret
   exact ⟨by rw [Hr.out];rfl,((aa.refl _).alloc _).alloc _⟩
  ·have Hr:Hid (cY a b=decide (a.no < b.no)):=by show _=_;simp only [cY,h1,h2,Bool.true_and,Bool.false_or]
   go_enter Tryz.func328,Tryz.ntmps328
   go_wp2
   go_ret
   exact ⟨by rw [Hr.out];rfl,((aa.refl _).alloc _).alloc _⟩
 ·have Hr:Hid (cY a b=true):=by show _=_;simp only [cY,h1,Bool.true_or]
  go_enter Tryz.func328,Tryz.ntmps328
  go_wp2
  go_ret
  exact ⟨by rw [Hr.out];rfl,((aa.refl _).alloc _).alloc _⟩
theorem IX (x:ag):∀ (n:Nat) (w:World),0 < n->(method n 176 (.agg (aV x)) "loop.example/g00185/impl.isBefore").run Tryz.prog w = .ok (328,.agg (aV x)) w
 | 0,_,h=>absurd h (Nat.lt_irrefl 0)
 | _+1,_,_=>by kernel_rfl
abbrev nu (w:World) (base:Nat) (v:Value) (xs:List ag):Prop:=Own 176 7 aV w base v xs
structure Line (W0:World) (L base:Nat) (v:Value) (xs:List ag) (w:World):Prop where
 line:ai w L #[v]
 own:nu w base v xs
 keeps:aa W0 w
theorem Line.go {W0 w w':World} {L base:Nat} {v:Value} {xs:List ag} (h:Line W0 L base v xs w) (k:aa w w'):Line W0 L base v xs w':=⟨h.line.keeps k,h.own.keeps k,h.keeps.trans k⟩
theorem Line.at {W0 w:World} {L base b n cap:Nat} {xs:List ag} (h:Line W0 L base (.slice (some ⟨b,0,none⟩) n cap) xs w) {i:Nat} {x:ag} (hx:xs[i]?=some x):(w.cell? ⟨b,i*7,none⟩=(aV x)[0]?) /\ ∀ j,j < 7->w.cell? ⟨b,i*7+j,none⟩=(aV x)[j]?:=by
 obtain ⟨a,cp,e,l,-,-⟩:=h.own.slice mD
 simp only [Value.slice.injEq] at e
 obtain ⟨rfl,-,-⟩:=e
 rcases l with rfl | ⟨b',off,e',-,l⟩
 ·simp at hx
 ·simp only [Option.some.injEq,Addr.mk.injEq] at e'
  obtain ⟨rfl,rfl,-⟩:=e'
  exact ⟨by simpa using l i x hx 0 (by omega),fun j hj=>by simpa using l i x hx j hj⟩
theorem Line.swap {W0 w:World} {L base b n cap:Nat} {ys:List ag} (h:Line W0 L base (.slice (some ⟨b,0,none⟩) n cap) ys w) {k m:Nat} (hk:k < ys.length) (hm:m < ys.length) (hn:ys.length=n) (hL:L < base) (h0:W0.heap.size <= L) (x y:ag) :
  Line W0 L base (.slice (some ⟨b,0,none⟩) n cap) ((ys.set k y).set m x) (putC (putC w b (k*7) (aV y).toList) b (m*7) (aV x).toList).drew:=by
 subst hn
 obtain ⟨f1,f2,-⟩:=h.own.free
 have o1:=h.own.put mD hk y
 rw [List.length_set] at o1
 have o2:nu (putC (putC w b (k*7) (aV y).toList) b (m*7) (aV x).toList) base (.slice (some ⟨b,0,none⟩) ys.length cap) ((ys.set k y).set m x):=by
  have:=Own.put (xs:=ys.set k y) (i:=m) mD (by rw [List.length_set];exact o1) (by simpa using hm) x
  rw [List.length_set,List.length_set] at this
  exact this
 exact ⟨(ai.aU (by omega) _ _ (ai.aU (by omega) _ _ h.line)).keeps (aa.refl _).drew,o2.keeps (aa.refl _).drew,(aa.putC (b:=b) (by omega) _ _ (aa.putC (b:=b) (by omega) _ _ h.keeps)).drew⟩
def vy (W0:World) (L base:Nat) (xs:List ag) (x:ag) (w':World):Prop:=∃ v' ys,Line W0 L base v' ys w' /\ fJ xs x ys
set_option maxHeartbeats 8000000 in
theorem IY (x:ag) (L:Nat) (v:Value) (xs:List ag) (base:Nat) (W0 w:World) (hi:Line W0 L base v xs w) (hh:ec xs) (h0:W0.heap.size <= L) (h1:L < base) (h2:base <= w.heap.size) (hlen:xs.length < 1048576) :
  Calls Tryz.prog 273 #[.pointer (some ⟨L,0,none⟩),.agg (aV x)] w fun e w'=>e = .returned (.tuple #[]) /\ vy W0 L base xs x w':=by
 obtain ⟨B,hown,hk⟩:=hi
 obtain ⟨a0,cap0,rfl,-,-,-⟩:=hown.slice mD
 have fj:∀ k,(Value.slice a0 xs.length cap0).ownBlock=some k->base <= k:=fun k hk=>(World.ownsRow.lt hown k hk).1
 generalize hn0:xs.length=n0 at *
 have oH:Hid (xs.length=n0):=hn0
 clear hn0
 have B1:Hid (ai (w.alloc (.cells (aV x) 176)) L #[.slice a0 n0 cap0]):=B.alloc _
 have O1:Hid (nu (w.alloc (.cells (aV x) 176)) base (.slice a0 n0 cap0) xs):=hown.alloc _
 have KW:Hid (aa W0 (w.alloc (.cells (aV x) 176))):=hk.alloc _
 have X1:=ai.new w (aV x) 176
 have hsz:Hid ((w.alloc (.cells (aV x) 176)).heap.size=w.heap.size+1):=by show _=_;simp
 go_enter Tryz.func273,Tryz.ntmps273
 go_wp2_with fail
 obtain ⟨_,z1,z2⟩:=X1
 have b1:(w.alloc (.cells (aV x) 176)).cell? ⟨L,0,none⟩=some (.slice a0 n0 cap0):=B1.out.cells 0
 have b2:=B1.out.aM 0
 have IZ:=B1.out.lt
 clear B hown hk
 generalize w.alloc (.cells (aV x) 176)=W at *
 go_cut [14] (fun c wx=>c = .pointer (some ⟨L,0,none⟩) /\ ∃ b cap,Line W0 L base (.slice (some ⟨b,0,none⟩) (n0+1) cap) (xs++[x]) wx)
 case first =>
  go_region_law (refine qs rfl (.tmp 10) (.tmp 12) 271 rfl base 176 (.agg (aV ag.zero)) 7 56 aV Tryz.underlying271 (by kernel_rfl) rfl (by decide) mD IW (.slice a0 n0 cap0) xs (by simp [Act.eval]) ((O1.out.alloc _).keeps (aa.refl _).drew) (by have:=hsz.out;simp;omega) x _ 1 ((ai.new _ _ _).keeps (aa.refl _).drew) (by simp [Act.eval]) (by have:=oH.out;unfold maxLen;omega) (by have:=oH.out;omega) ?_;intro v' w' hown hgrow;obtain ⟨bb,cap,rfl,li,-,-⟩:=hown.some mD (by simp);have G:Hid (ai w' L #[.slice a0 n0 cap0]):=((B1.out.alloc _).keeps (aa.refl _).drew).grown hgrow (by intro k hk;have:=fj k hk;omega);have g1:w'.cell? ⟨L,0,none⟩=some (.slice a0 n0 cap0):=G.out.cells 0;have g2:=G.out.aM 0;have g0:=G.out.lt)
  all_goals
   go_wp2
   go_meet
   have e1:(xs++[x]).length=n0+1:=by have:=oH.out;simp;omega
   rw [e1] at hown
   refine ⟨rfl,bb,cap,⟨?_,?_,?_⟩⟩
   ·have:=G.out.set 0 (by simp) (.slice (some ⟨bb,0,none⟩) (n0+1) cap)
    simpa [e1,oH.out] using this
   ·have:=hown.cE ((ab.refl L w').setCell 0 (.slice (some ⟨bb,0,none⟩) (n0+1) cap)) h1
    simpa [e1,oH.out] using this
   ·exact ((KW.out.alloc _).drew.grown hgrow (by intro k hk;have:=fj k hk;omega)).setCell h0 _
 case rest =>
  obtain ⟨rfl,b,cap,T⟩:=hcut
  generalize wc=X at *
  have TH:Hid (Line W0 L base (.slice (some ⟨b,0,none⟩) (n0+1) cap) (xs++[x]) X):=T
  have l1:X.cell? ⟨L,0,none⟩=some (.slice (some ⟨b,0,none⟩) (n0+1) cap):=T.line.cells 0
  clear T z1 z2 b1 b2
  go_wp2_with fail
  go_loopw [4] (fun a wr=>∃ k:Nat,a = .int .i64 k /\ ∃ ys,fu xs x k ys /\ Line W0 L base (.slice (some ⟨b,0,none⟩) (n0+1) cap) ys wr) (fun a _=>(intOf a).toNat)
  case atStart=>exact ⟨n0,by go_num,xs++[x],by have:=fu.start hh x;rw [oH.out] at this;exact this,TH.out⟩
  case round =>
   obtain ⟨k,rfl,ys,hS,hL⟩:=hrel
   have SH:Hid (fu xs x k ys):=hS
   have LH:Hid (Line W0 L base (.slice (some ⟨b,0,none⟩) (n0+1) cap) ys wr):=hL
   have Hl:Hid (ys.length=n0+1):=by show _=_;rw [hS.len,oH.out]
   have hkn:k < n0+1:=by have:=hS.lt;rw [Hl.out] at this;exact this
   clear l1 TH hS hL
   by_cases hk0:k=0
   ·have hg:decide (0 < k)=false:=by simp;omega
    have S0:fu xs x 0 ys:=by have:=SH.out;rw [hk0] at this;exact this
    have SE:Hid (fJ xs x ys):=S0.qn
    clear S0 hk0
    go_wp2
    go_end0
    exact ⟨rfl,_,ys,LH.out,SE.out⟩
   ·have hg:decide (0 < k)=true:=by simp;omega
    obtain ⟨m,hm⟩:∃ m,m=k - 1:=⟨_,rfl⟩
    obtain ⟨p,hp⟩:∃ p,p=(k - 1) / 2:=⟨_,rfl⟩
    have Px:p < k:=by omega
    obtain ⟨y,hy⟩:∃ y,ys[(k - 1) / 2]?=some y:=⟨_,List.getElem?_eq_getElem (by have:=Hl.out;omega)⟩
    have HY:Hid (ys[(k - 1) / 2]?=some y):=hy
    have HP:Hid (p=(k - 1) / 2):=hp
    have hpn:p < n0+1:=by omega
    have hki:(k:Int) < (n0:Int)+1:=by omega
    have hpi:(p:Int) < (n0:Int)+1:=by omega
    have e1:(k:Int) - 1=(m:Int):=by omega
    have e2:IntKind.i64.wrap (m:Int)=(m:Int):=Go.IntWalk.i64_in _ (by omega)
    have e3:Int.tdiv (m:Int) 2=(p:Int):=by
     have:(m:Int).tdiv 2=((m / 2:Nat):Int):=rfl
     rw [this,hp,hm]
    have e4:IntKind.i64.wrap (p:Int)=(p:Int):=Go.IntWalk.i64_in _ (by omega)
    obtain ⟨ri,jn⟩:=LH.out.at SH.out.me
    obtain ⟨vz,nw⟩:=LH.out.at hy
    rw [<- hp] at vz nw
    clear hm hp hy
    generalize wr=X at *
    have l1:∀ w',aa X w'->w'.cell? ⟨L,0,none⟩=some (.slice (some ⟨b,0,none⟩) (n0+1) cap):=aa.has (LH.out.line.cells 0)
    have x0:∀ w',aa X w'->w'.cell? ⟨b,k*7,none⟩=some (.int .i64 x.no):=aa.has ri
    have x1:∀ w',aa X w'->w'.cell? ⟨b,k*7+1,none⟩=some (.int .i64 x.cls):=aa.has (jn 1 (by omega))
    have x2:∀ w',aa X w'->w'.cell? ⟨b,k*7+2,none⟩=some (.int .i64 x.cpu):=aa.has (jn 2 (by omega))
    have x3:∀ w',aa X w'->w'.cell? ⟨b,k*7+3,none⟩=some (.int .i64 x.st):=aa.has (jn 3 (by omega))
    have x4:∀ w',aa X w'->w'.cell? ⟨b,k*7+4,none⟩=some (.bool x.idle):=aa.has (jn 4 (by omega))
    have x5:∀ w',aa X w'->w'.cell? ⟨b,k*7+5,none⟩=some (.int .i64 x.nice):=aa.has (jn 5 (by omega))
    have x6:∀ w',aa X w'->w'.cell? ⟨b,k*7+6,none⟩=some (.int .i64 x.v):=aa.has (jn 6 (by omega))
    have y0:∀ w',aa X w'->w'.cell? ⟨b,p*7,none⟩=some (.int .i64 y.no):=aa.has vz
    have y1:∀ w',aa X w'->w'.cell? ⟨b,p*7+1,none⟩=some (.int .i64 y.cls):=aa.has (nw 1 (by omega))
    have y2:∀ w',aa X w'->w'.cell? ⟨b,p*7+2,none⟩=some (.int .i64 y.cpu):=aa.has (nw 2 (by omega))
    have y3:∀ w',aa X w'->w'.cell? ⟨b,p*7+3,none⟩=some (.int .i64 y.st):=aa.has (nw 3 (by omega))
    have y4:∀ w',aa X w'->w'.cell? ⟨b,p*7+4,none⟩=some (.bool y.idle):=aa.has (nw 4 (by omega))
    have y5:∀ w',aa X w'->w'.cell? ⟨b,p*7+5,none⟩=some (.int .i64 y.nice):=aa.has (nw 5 (by omega))
    have y6:∀ w',aa X w'->w'.cell? ⟨b,p*7+6,none⟩=some (.int .i64 y.v):=aa.has (nw 6 (by omega))
    clear ri jn vz nw
    have hm:=IX x
    go_wp2_with fail
    cases hbf:cY x y
    ·have SE:Hid (fJ xs x ys):=SH.out.stay (by omega) HY.out hbf
     refine wp_region_held_drew (S:=(fun w'=>aa X w')) (by kernel_rfl) ?_ (fun hHeld => ?_)
     ·exact (aa.refl X).drew
     refine ad.go [0,1,2,3,4,5,6,7,8,9,10,11,12,13,14] ?_
     iterate 15 (refine aJ (h := ?_);try simp only [ar])
     refine ad.nil ?_
     refine aO 15 (h:=fun K hK => ?_)
     go_simp
     first
      | (go_at_call 328;refine (As x y _).mono ?_;rintro e w5 ⟨rfl,k5⟩;rw [hbf])
     try go_wp2_with fail
     refine hK.out _ _ ?_ fun hHeld => ?_
     ·exact aa.trans (by assumption) (by assumption)
     clear hK K
     try simp only [ar]
     refine cU 16 (h := ?_)
     try simp only [ar]
     refine wpAnyH_done (by kernel_rfl) ?_ _
     have K5:aa X w5:=by assumption
     go_wp2
     exact bodyPost_ret (v := .tuple #[]) (results_none rfl _ _ _) rfl ⟨rfl,_,ys,LH.out.go K5,SE.out⟩
    ·have SU:Hid (fu xs x p ((ys.set k y).set p x)):=by have:=SH.out.up (by omega) HY.out hbf;rw [<- HP.out] at this;exact this
     refine wp_region_held_drew (S:=(fun w'=>aa X w')) (by kernel_rfl) ?_ (fun hHeld => ?_)
     ·exact (aa.refl X).drew
     refine ad.go [0,1,2,3,4,5,6,7,8,9,10,11,12,13,14] ?_
     iterate 15 (refine aJ (h := ?_);try simp only [ar])
     refine ad.nil ?_
     refine aO 15 (h:=fun K hK => ?_)
     go_simp
     first
      | (go_at_call 328;refine (As x y _).mono ?_;rintro e w5 ⟨rfl,k5⟩;rw [hbf])
     try go_wp2_with fail
     refine hK.out _ _ ?_ fun hHeld => ?_
     ·exact aa.trans (by assumption) (by assumption)
     clear hK K
     try simp only [ar]
     refine cU 16 (h := ?_)
     try simp only [ar]
     refine wpAnyH_done (by kernel_rfl) ?_ _
     have K5:aa X w5:=by assumption
     have ll:w5.cell? ⟨L,0,none⟩=some (.slice (some ⟨b,0,none⟩) (n0+1) cap):=l1 _ K5
     obtain ⟨-,-,fr⟩:=(LH.out.go K5).own.free
     have v0:w5.cell? ⟨b,k*7,none⟩=some (.int .i64 x.no):=x0 _ K5
     have v1:w5.cell? ⟨b,k*7+1,none⟩=some (.int .i64 x.cls):=x1 _ K5
     have v2:w5.cell? ⟨b,k*7+2,none⟩=some (.int .i64 x.cpu):=x2 _ K5
     have v3:w5.cell? ⟨b,k*7+3,none⟩=some (.int .i64 x.st):=x3 _ K5
     have v4:w5.cell? ⟨b,k*7+4,none⟩=some (.bool x.idle):=x4 _ K5
     have v5:w5.cell? ⟨b,k*7+5,none⟩=some (.int .i64 x.nice):=x5 _ K5
     have v6:w5.cell? ⟨b,k*7+6,none⟩=some (.int .i64 x.v):=x6 _ K5
     have u0:w5.cell? ⟨b,p*7,none⟩=some (.int .i64 y.no):=y0 _ K5
     have u1:w5.cell? ⟨b,p*7+1,none⟩=some (.int .i64 y.cls):=y1 _ K5
     have u2:w5.cell? ⟨b,p*7+2,none⟩=some (.int .i64 y.cpu):=y2 _ K5
     have u3:w5.cell? ⟨b,p*7+3,none⟩=some (.int .i64 y.st):=y3 _ K5
     have u4:w5.cell? ⟨b,p*7+4,none⟩=some (.bool y.idle):=y4 _ K5
     have u5:w5.cell? ⟨b,p*7+5,none⟩=some (.int .i64 y.nice):=y5 _ K5
     have u6:w5.cell? ⟨b,p*7+6,none⟩=some (.int .i64 y.v):=y6 _ K5
     clear l1 x0 x1 x2 x3 x4 x5 x6 y0 y1 y2 y3 y4 y5 y6 k5 hHeld
     go_wp2_with fail
     go_region
     have D:=(LH.out.go K5).swap (k:=k) (m:=p) (by have:=Hl.out;omega) (by have:=Hl.out;omega) Hl.out h1 h0 x y
     change Exit.then _ _ _ _ (putC (putC w5 b (k*7) (aV y).toList) b (p*7) (aV x).toList).drew
     clear u0 u1 u2 u3 u4 u5 u6 v0 v1 v2 v3 v4 v5 v6 fr ll
     generalize (putC (putC w5 b (k*7) (aV y).toList) b (p*7) (aV x).toList).drew=Y at D ⊢
     have DH:Hid (Line W0 L base (.slice (some ⟨b,0,none⟩) (n0+1) cap) ((ys.set k y).set p x) Y):=D
     clear D
     go_wp2
     go_roundw
     case rel=>exact ⟨p,rfl,_,SU.out,DH.out⟩
     case measure=>simp only [intOf];omega
end
section
open Go.RowKit Go.Shelf
attribute [local go_sem] aa.refl aa.alloc aa.drew aa.drewN
def KC (B:Nat) (W W':World):Prop:=W.heap.size <= W'.heap.size /\ ∀ k o,B <= k->W.heap[k]?=some o->o.isCells=true->W'.heap[k]?=some o
theorem KC.refl (B:Nat) (W:World):KC B W W:=⟨Nat.le_refl _,fun _ _ _ h _=>h⟩
theorem KC.trans {B:Nat} {X Y Z:World} (h:KC B X Y) (k:KC B Y Z):KC B X Z:=⟨Nat.le_trans h.1 k.1,fun i o hB hi ho=>k.2 i o hB (h.2 i o hB hi ho) ho⟩
theorem KC.of {B:Nat} {W W':World} (h:aa W W'):KC B W W':=⟨h.size,fun k _ _ hk _=>(Below.block h k (Array.getElem?_eq_some_iff.1 hk).1).trans hk⟩
theorem KC.putObj {B:Nat} (W:World) (l:Nat) (o o':Obj) (h:W.heap[l]?=some o) (hc:o.isCells=false):KC B W (W.putObj l o'):=by
 refine ⟨by simp,fun k o1 _ hk ho => ?_⟩
 by_cases e:k=l
 ·subst e
  rw [h] at hk
  cases hk
  rw [hc] at ho;cases ho
 ·rw [World.putObj_heap_other (by omega)];exact hk
theorem Own.kc {α:Type} {e:TypeId} {sz:Nat} {c:α->Array Value} {w w':World} {base B:Nat} {v:Value} {xs:List α} (h:Own e sz c w base v xs) (k:KC B w w') (hB:B <= base):Own e sz c w' base v xs:=by
 obtain ⟨h1,h2⟩:=h
 refine ⟨h1,?_⟩
 rcases h2 with h2 | ⟨b,cap,cur,hv,hb,hh,r⟩
 ·exact .inl h2
 ·exact .inr ⟨b,cap,cur,hv,hb,k.2 b _ (by omega) hh rfl,r⟩
theorem I0 (a:Option Addr) (n cap:Nat) (w:World) :
  Calls Tryz.prog 248 #[.slice a n cap] w fun e w'=>e = .returned (.func (.func 272) #[] #[.pointer (some ⟨w.heap.size,0,none⟩)]) /\ w'=w.alloc (.cells #[.slice a n cap] 24):=by
 go_enter Tryz.func248,Tryz.ntmps248
 go_wp2
 go_ret
 exact ⟨rfl,rfl⟩
theorem I3 {W X:World} (h:aa W X):W.grownBy X none:=⟨h.os,h.tape,h.output,h.size,fun k hk _=>Below.block h k hk⟩
theorem I4 {w:World} {base b n cap:Nat} {xs:List ag} (h:nu w base (.slice (some ⟨b,0,none⟩) n cap) xs) {i:Nat} {x:ag} (hx:xs[i]?=some x):(w.cell? ⟨b,i*7,none⟩=(aV x)[0]?) /\ ∀ j,j < 7->w.cell? ⟨b,i*7+j,none⟩=(aV x)[j]?:=by
 obtain ⟨a,cp,e,l,-,-⟩:=h.slice mD
 simp only [Value.slice.injEq] at e
 obtain ⟨rfl,-,-⟩:=e
 rcases l with rfl | ⟨b',off,e',-,l⟩
 ·simp at hx
 ·simp only [Option.some.injEq,Addr.mk.injEq] at e'
  obtain ⟨rfl,rfl,-⟩:=e'
  exact ⟨by simpa using l i x hx 0 (by omega),fun j hj=>by simpa using l i x hx j hj⟩
set_option maxHeartbeats 8000000 in
theorem I5 (a:Option Addr) (cap:Nat) (ts:List ag) (Bs:Nat) (w:World) (I6:Bs < w.heap.size) (hc:w.cell? ⟨Bs,0,none⟩=some (.slice a ts.length cap)) (hs:Ts w a ts) (hl:ts.length <= 1048576) (n:Nat) :
  SeqStopsK Fence.wide n Tryz.prog 272 #[.pointer (some ⟨Bs,0,none⟩)] (fun t:ag=>#[.agg (aV t)]) (KC w.heap.size) (fun ys=>aX ts ys) (fun pre=>∃ ys,aX ts ys /\ pre <+: ys) (ts.length+1) w:=by
 intro l J Jx W hW hJ hJx hY h0
 have KW:aa w W:=hW
 have HY:Hid (∀ (pre:List ag) (x:ag) (W1:World),J pre W1->pre.length < ts.length+1->YieldAt Fence.wide (n - 1) Tryz.prog l #[.agg (aV x)] W1 fun e W' =>
   (e = .returned (.bool true) /\ J (pre++[x]) W' /\ KC w.heap.size W1 W')∨(e = .returned (.bool false) /\ Jx (pre++[x]) W')):=hY
 have hc1:∀ w',aa W w'->w'.cell? ⟨Bs,0,none⟩=some (.slice a ts.length cap):=aa.has ((KW.cells _ _ I6).trans hc)
 have hs1:Hid (Ts W a ts):=hs.keeps KW
 have HJ:Hid (AbidesFrom W.heap.size J):=hJ
 have HX:Hid (AbidesFrom W.heap.size Jx):=hJx
 have hw0:w.heap.size <= W.heap.size:=KW.size
 have H0:Hid (J [] W):=h0
 clear hY hJ hJx hs hc hW KW h0
 generalize hn:ts.length=m at *
 have Hn:Hid (ts.length=m):=hn
 clear hn
 refine callsIn_wide.2 ?_
 show Calls _ _ #[.func (.yield l) #[] #[],.pointer (some ⟨Bs,0,none⟩)] _ _
 go_enter Tryz.func272,Tryz.ntmps272
 go_wp2_with fail
 have L0:Hid (Line W W.heap.size (W.heap.size+1) (.slice none 0 0) [] (W.alloc (.cells #[.slice none 0 0] 273))):=⟨ai.new _ _ _,World.ownsRow_nil _ _ _ _,(aa.refl W).alloc _⟩
 go_loopw [10] (fun i wr=>∃ k:Nat,k <= m /\ i = .int .i64 k /\ ∃ v xs,Line W W.heap.size (W.heap.size+1) v xs wr /\ aX (ts.take k) xs) (fun i _=>m - (intOf i).toNat)
 case atStart=>exact ⟨0,Nat.zero_le _,rfl,_,[],L0.out,by simpa using aX.start⟩
 case round =>
  obtain ⟨k,hk,rfl,v,xs,hL,hO⟩:=hrel
  have LH:Hid (Line W W.heap.size (W.heap.size+1) v xs wr):=hL
  have OH:Hid (aX (ts.take k) xs):=hO
  have K1:aa W wr:=hL.keeps
  have hxl:xs.length <= k:=by have:=hO.len;simp at this;omega
  clear hL hO L0
  by_cases hlt:k < m
  ·obtain ⟨t,ht⟩:=iW (xs:=ts) (k:=k) (by rw [Hn.out];exact hlt)
   obtain ⟨b,off,rfl,r0,r1⟩:=hs1.out.at ht (by omega)
   have lY:Hid (ts.take (k+1)=ts.take k++[t]):=by
    show _=_
    have hk':k < ts.length:=by rw [Hn.out];exact hlt
    rw [List.take_succ_eq_append_getElem hk']
    rw [List.getElem?_eq_getElem hk'] at ht
    simp only [Option.some.injEq] at ht
    rw [ht]
   have hlt':(k:Int) < (m:Int):=by omega
   clear ht
   go_wp2_with fail
   have X0:Hid (Line W W.heap.size (W.heap.size+1) v xs (wr.alloc (.cells (tc t) 43))):=LH.out.go ((aa.refl wr).alloc _)
   have hT:=dE wr (tc t) 43
   clear r0 r1
   generalize wr.alloc (.cells (tc t) 43)=X at *
   refine (vA t _).mono ?_
   rintro e w1 ⟨rfl,k1⟩
   cases hf:dY t
   ·have HO:Hid (aX (ts.take (k+1)) xs):=by show aX _ _;rw [lY.out];exact OH.out.skip hf
    go_wp2
    exact ⟨⟨k+1,by omega,by go_num,v,xs,X0.out.go k1,HO.out⟩,by simp only [intOf];omega⟩
   ·go_wp2_with (first
     | (go_at_call 119;refine (tw t _).mono ?_;rintro e w2 ⟨rfl,k2⟩)
     | (go_at_call 273;refine (IY t W.heap.size v xs (W.heap.size+1) W w2 (X0.out.go (k1.trans k2)) OH.out.heap (Nat.le_refl _) (by omega) (X0.out.go (k1.trans k2)).line.lt (by omega)).mono ?_;rintro e w3 ⟨rfl,v',ys,L3,S3⟩))
    have HO:Hid (aX (ts.take (k+1)) ys):=by show aX _ _;rw [lY.out];exact OH.out.snoc hf S3
    exact ⟨⟨k+1,by omega,by go_num,v',ys,L3,HO.out⟩,by simp only [intOf];omega⟩
  ·have hlt':decide ((k:Int) < (m:Int))=false:=by simp;omega
   have HO:Hid (aX ts xs):=by have:=OH.out;rw [List.take_of_length_le (by have:=Hn.out;omega)] at this;exact this
   obtain ⟨a',cp,rfl,li,-,-⟩:=LH.out.own.slice mD
   have hl1:=LH.out.line.cells 0
   generalize hq:xs.length=q at *
   have Hq:Hid (xs.length=q):=hq
   clear hq
   go_wp2_with fail
   have J0:Hid (J [] wr):=HJ.out [] W wr none H0.out (I3 K1) (fun r e=>by cases e)
   have O0:Hid (nu wr (W.heap.size+1) (.slice a' q cp) xs):=LH.out.own
   clear LH OH li hl1 hc1
   generalize wr=V at *
   refine (wpIn_wide (n:=n)).1 ?_
   gi_loopw [23] (fun i wx=>∃ j:Nat,j <= q /\ i = .int .i64 j /\ J (xs.take j) wx /\ nu wx (W.heap.size+1) (.slice a' q cp) xs) (fun i _=>q - (intOf i).toNat)
   case atStart=>exact ⟨0,Nat.zero_le _,rfl,by simpa using J0.out,O0.out⟩
   case round =>
    obtain ⟨j,hj,rfl,Au,Av⟩:=hrel
    have J1:Hid (J (xs.take j) wr):=Au
    have O1:Hid (nu wr (W.heap.size+1) (.slice a' q cp) xs):=Av
    clear Au Av
    by_cases hjt:j < q
    ·obtain ⟨x,hx⟩:=iW (xs:=xs) (k:=j) (by rw [Hq.out];exact hjt)
     have lY:Hid (xs.take (j+1)=xs.take j++[x]):=by
      show _=_
      have hk':j < xs.length:=by rw [Hq.out];exact hjt
      have hx':=hx
      rw [List.getElem?_eq_getElem hk'] at hx'
      rw [List.take_succ_eq_append_getElem hk']
      simp only [Option.some.injEq] at hx'
      rw [hx']
     obtain ⟨b,cp',e1,-,-,-⟩:=O1.out.some mD (by rw [Hq.out];omega)
     simp only [Value.slice.injEq] at e1
     obtain ⟨rfl,-,-⟩:=e1
     obtain ⟨ri,jn⟩:=I4 O1.out hx
     have c0:wr.cell? ⟨b,j*7,none⟩=some (.int .i64 x.no):=ri
     have c1:wr.cell? ⟨b,j*7+1,none⟩=some (.int .i64 x.cls):=jn 1 (by omega)
     have c2:wr.cell? ⟨b,j*7+2,none⟩=some (.int .i64 x.cpu):=jn 2 (by omega)
     have c3:wr.cell? ⟨b,j*7+3,none⟩=some (.int .i64 x.st):=jn 3 (by omega)
     have c4:wr.cell? ⟨b,j*7+4,none⟩=some (.bool x.idle):=jn 4 (by omega)
     have c5:wr.cell? ⟨b,j*7+5,none⟩=some (.int .i64 x.nice):=jn 5 (by omega)
     have c6:wr.cell? ⟨b,j*7+6,none⟩=some (.int .i64 x.v):=jn 6 (by omega)
     have iK:(j:Int) < (q:Int):=by omega
     have J2:J (xs.take j) (wr.alloc (.cells (aV x) 176)):=HJ.out _ wr _ none J1.out (World.grownBy_alloc wr _ none) (fun r e=>by cases e)
     obtain ⟨fn,tmps,assign,body,hy,hR⟩:=HY.out (xs.take j) x _ J2 (by simp;omega)
     clear ri jn hx J2
     gi_wp2
     refine ⟨fun h=>(by simp [Fence.wide] at h),?_⟩
     refine hR.mono ?_
     rintro e W3 (⟨rfl,hJ3,hk3⟩ | ⟨rfl,hJx3⟩)
     ·have J3:Hid (J (xs.take (j+1)) W3):=by show J _ _;rw [lY.out];exact hJ3
      have O3:Hid (nu W3 (W.heap.size+1) (.slice (some ⟨b,0,none⟩) q cp) xs):=(O1.out.alloc _).kc hk3 (by omega)
      gi_wp2
      go_roundw
      case rel=>exact ⟨j+1,by omega,by go_num,J3.out,O3.out⟩
      case measure=>simp only [intOf];omega
     ·have J3:Hid (Jx (xs.take (j+1)) W3):=by show Jx _ _;rw [lY.out];exact hJx3
      gi_wp2
      refine bodyPost_ret (results_none rfl _ _ _) rfl ?_
      exact ⟨⟨_,rfl⟩,.inr ⟨_,⟨xs,HO.out,List.take_prefix _ _⟩,J3.out⟩⟩
    ·have iK:decide ((j:Int) < (q:Int))=false:=by simp;omega
     have J3:Hid (J xs wr):=by have:=J1.out;rw [List.take_of_length_le (by have:=Hq.out;omega)] at this;exact this
     gi_wp2
     go_end0
     exact ⟨⟨_,rfl⟩,.inl ⟨xs,HO.out,J3.out⟩⟩
end
section
open Go.RowKit
attribute [local go_sem] aa.refl aa.alloc aa.drew aa.drewN
attribute [local go_sem high] Ad
set_option maxHeartbeats 2000000 in
theorem Gz (c:Cl) (w:World) :
  Calls Tryz.prog 38 #[ck c] w fun e w'=>e = .returned (.bool (ey c)) /\ aa w w':=by
 have kW:aa w (w.alloc (.cells (cc c) 32)):=(aa.refl _).alloc _
 have r1:=dE w (cc c) 32
 cases b:aF c.kind 1 11
 ·have Hr:Hid (ey c=false):=by show _=_;simp [ey,b]
  go_enter Tryz.func38,Tryz.ntmps38
  go_wp2_with fail
  generalize w.alloc (.cells (cc c) 32)=W at *
  refine wp_region_held_drew (S:=(fun w'=>aa W w')) (by kernel_rfl) ?_ (fun hHeld => ?_)
  ·exact (aa.refl W).drew
  refine ad.go [0,1] ?_
  iterate 2 (refine aJ (h := ?_);try simp only [ar])
  refine ad.nil ?_
  refine aO 2 (h:=fun K hK => ?_)
  go_simp
  first
   | (go_at_call 27;refine (bn _ _ _ _).mono ?_;rintro e w' ⟨rfl,hw1⟩;have hw2:=hw1.symm;subst hw2;rw [b])
   | (go_at_call 81;refine (vB c _).mono ?_;rintro e w1 ⟨rfl,k1⟩)
  try go_wp2_with fail
  refine hK.out _ _ ?_ fun hHeld => ?_
  ·first | assumption | exact aa.trans (by assumption) (by assumption)
  clear hK K
  try simp only [ar]
  refine cU 3 (h := ?_)
  try simp only [ar]
  refine ad.go [4,5,6,7] ?_
  iterate 4 (refine dB (h := ?_);try simp only [ar])
  refine ad.nil ?_
  refine ad.go [8,9] ?_
  iterate 2 (refine aJ (h := ?_);try simp only [ar])
  refine ad.nil ?_
  refine wpAnyH_done (by kernel_rfl) ?_ _
  go_wp2
  go_ret
  exact ⟨by rw [Hr.out];rfl,kW.trans (by assumption)⟩
 ·have Hr:Hid (ey c=fF c (eh c)):=by show _=_;simp [ey,b]
  go_enter Tryz.func38,Tryz.ntmps38
  go_wp2_with fail
  generalize w.alloc (.cells (cc c) 32)=W at *
  refine wp_region_held_drew (S:=(fun w'=>aa W w')) (by kernel_rfl) ?_ (fun hHeld => ?_)
  ·exact (aa.refl W).drew
  refine ad.go [0,1] ?_
  iterate 2 (refine aJ (h := ?_);try simp only [ar])
  refine ad.nil ?_
  refine aO 2 (h:=fun K hK => ?_)
  go_simp
  first
   | (go_at_call 27;refine (bn _ _ _ _).mono ?_;rintro e w' ⟨rfl,hw1⟩;have hw2:=hw1.symm;subst hw2;rw [b])
   | (go_at_call 81;refine (vB c _).mono ?_;rintro e w1 ⟨rfl,k1⟩)
  try go_wp2_with fail
  refine hK.out _ _ ?_ fun hHeld => ?_
  ·first | assumption | exact aa.trans (by assumption) (by assumption)
  clear hK K
  try simp only [ar]
  refine ad.go [3,4,5] ?_
  iterate 3 (refine aJ (h := ?_);try simp only [ar])
  refine ad.nil ?_
  refine aO 6 (h:=fun K hK => ?_)
  go_simp
  first
   | (go_at_call 27;refine (bn _ _ _ _).mono ?_;rintro e w' ⟨rfl,hw1⟩;have hw2:=hw1.symm;subst hw2;rw [b])
   | (go_at_call 81;refine (vB c _).mono ?_;rintro e w1 ⟨rfl,k1⟩)
  try go_wp2_with fail
  refine hK.out _ _ ?_ fun hHeld => ?_
  ·first | assumption | exact aa.trans (by assumption) (by assumption)
  clear hK K
  try simp only [ar]
  refine ad.go [7,8,9] ?_
  iterate 3 (refine aJ (h := ?_);try simp only [ar])
  refine ad.nil ?_
  refine wpAnyH_done (by kernel_rfl) ?_ _
  go_wp2
  go_ret
  exact ⟨by rw [Hr.out];rfl,kW.trans (by assumption)⟩
def H9:Prop:=∀ (c:Cl) (w:World),Calls Tryz.prog 35 #[ck c] w fun e w'=>e = .returned (.bool (ey c)) /\ aa w w'
end
section
open Go.RowKit
theorem I7 {s:Sy} (R:cV s) {i:Nat} {l:Lk} (hl:s.af[i]?=some l) {x:Int} (hx:hasB l.waits x=true):gx s.tasks s.af x=gx s.tasks s.af l.owner /\ gx s.tasks s.af x≠x:=by
 have hlk:=R.af
 unfold gy at hlk
 simp only [Bool.and_eq_true] at hlk
 have RL:=lK.1 hlk.2.1
 have hno:=RL.no i l x hl hx
 have hix:dj s.af x=some i:=tz hl hx fun j m hj hm=>Aw (RL.once i l x hl hx) hl hx hm (by omega)
 obtain ⟨c,hc⟩:=RL.chain l.owner
 have ho:d7 s.af i=l.owner:=gO hl
 have Ax:Ends s.af x (x::c):=Ends.step hix (by rw [ho];exact hc)
 have e1:ig s.af l.owner=c:=by unfold ig;rw [hc.is]
 have e2:ig s.af x=x::c:=by unfold ig;rw [Ax.is]
 have hw:l.owner≠0:=fun h=>by
  have h2:=RL.free i l hl h
  rw [h2] at hx
  cases hx
 have hth:bF s.tasks x=true:=by
  have h1:=List.all_eq_true.1 hlk.2.2 l (List.mem_of_getElem? hl)
  unfold iC at h1
  rw [show (l.owner==0)=false from by simpa using hw,Bool.false_or,Bool.and_eq_true,List.all_eq_true] at h1
  have h2:=h1.2 x (il.1 hx)
  unfold jo at h2
  rw [Bool.and_eq_true] at h2
  exact h2.1
 have hp:=hc.pos
 have el:lj (x::c)=lj c:=by
  have h1:=rf hp
  have h2:=rf (c:=x::c) (by simp)
  have:(x::c).length - 1=(c.length - 1)+1:=by simp;omega
  rw [this,List.getElem?_cons_succ,h1] at h2
  exact (Option.some.inj h2).symm
 unfold gx
 rw [e1,e2,List.all_cons,hth,Bool.true_and,el]
 refine ⟨rfl,?_⟩
 split
 ·intro e
  have h1:(x::c)[c.length - 1+1]?=some x:=by
   rw [List.getElem?_cons_succ,rf hp,e]
  have:=Ax.nodup (p:=0) (q:=c.length - 1+1) rfl h1
  omega
 ·omega
theorem I8 {s:Sy} (hs:bf s=true) {i:Nat} {l:Lk} (hl:s.af[i]?=some l) (hd:fK s ⟨8,l.owner,0,i,0⟩=0):d7 (eQ s ⟨8,l.owner,0,i,0⟩).af i=eO s.tasks l.waits:=by
 have hcb:∀ no a:Int,ey ⟨8,no,0,a,0⟩=true:=fun no a=>by simp [ey,eh,fF,aF]
 have R:=kp.1 hs
 have hlk:=R.af
 unfold gy at hlk
 simp only [Bool.and_eq_true] at hlk
 have RL:=lK.1 hlk.2.1
 have hdo:df s ⟨8,l.owner,0,i,0⟩=0:=by
  unfold fK at hd
  rw [hs,hcb] at hd
  exact hd
 have hS:eQ s ⟨8,l.owner,0,i,0⟩=ei s ⟨8,l.owner,0,i,0⟩:=by
  unfold eQ
  rw [hs,hcb,hdo]
  rfl
 have hC:ei s ⟨8,l.owner,0,i,0⟩=jX s ⟨8,l.owner,0,i,0⟩:=rfl
 have hth:bF s.tasks l.owner=true:=by
  cases h:bF s.tasks l.owner
  ·have:df s ⟨8,l.owner,0,i,0⟩=2:=sH (c:=⟨8,l.owner,0,i,0⟩) rfl rfl h
   omega
  ·rfl
 have hw0:l.owner≠0:=fun h=>by
  rw [h] at hth
  unfold bF at hth
  rw [Ay R.tasks] at hth
  cases hth
 have ew:jm s.af i=l.waits:=by unfold jm;rw [hl]
 rw [hS,hC]
 show d7 (dV s.af i l.owner (eO s.tasks (jm s.af ((i:Int)).toNat))) i=_
 rw [Int.toNat_natCast,ew]
 have hi:i < s.af.length:=da hl
 have vC:lZ l.waits (eO s.tasks l.waits)=true:=by
  unfold lZ
  split
  ·next h0 =>
   have h1:l.waits=[]:=by simpa using h0
   rw [h1]
   unfold eO
   rw [R.tasks]
   rcases oI s.tasks (lV []) s.tasks.length (Nat.le_refl _) with ⟨e,_⟩ | ⟨j,t,e,_,hu,hc,_⟩
   ·rw [e];rfl
   ·cases hc
  ·next h0 =>
   unfold eO
   rw [R.tasks]
   rcases oI s.tasks (lV l.waits) s.tasks.length (Nat.le_refl _) with ⟨e,hnone⟩ | ⟨j,t,e,_,hu,hc,_⟩
   ·exfalso
    obtain ⟨y,hy⟩:∃ y,y∈l.waits:=by
     cases hl2:l.waits with
     | nil=>rw [hl2] at h0;simp at h0
     | cons a r=>exact ⟨a,by simp⟩
    have h1:=List.all_eq_true.1 hlk.2.2 l (List.mem_of_getElem? hl)
    unfold iC at h1
    rw [show (l.owner==0)=false from by simpa using hw0,Bool.false_or,Bool.and_eq_true,List.all_eq_true] at h1
    have h2:=h1.2 y hy
    unfold jo at h2
    rw [Bool.and_eq_true] at h2
    obtain ⟨k,t,_,hk,en⟩:=jL.1 h2.1
    have h3:=hnone k t (da hk) hk
    unfold lV at h3
    rw [en] at h3
    rw [il.2 hy] at h3
    cases h3
   ·show hasB l.waits (gT s.tasks _)=true
    rw [e]
    unfold gT
    rw [if_neg (by omega),Int.toNat_natCast,lU hu]
    exact hc
 have lf:eD s.af i l.owner (eO s.tasks l.waits)=true:=by
  unfold eD
  rw [lK.2 RL,Int.toNat_natCast,ew,vC,gO hl]
  have h1:aF (i:Int) 0 ((s.af.length:Int) - 1)=true:=dq.2 ⟨by omega,by omega⟩
  rw [h1]
  simp [hw0]
 unfold dV
 rw [lK.2 RL,lf,Int.toNat_natCast]
 show d7 (s.af.modify i (pQ (eO s.tasks l.waits))) i=_
 unfold d7
 rw [List.getElem?_modify_eq,hl]
 rfl
end
section
open Go.RowKit Go.Shelf
attribute [local go_sem] Oper.semAt_some
theorem ai.other {W W':World} {b:Nat} {C:Array Value} {row:Option Nat} (h:ai W b C) (hC:0 < C.size) (hg:W.grownBy W' row) (hr:∀ r,row=some r->∃ o:Obj,W.heap[r]?=some o /\ o.isCells=false):ai W' b C:=by
 refine h.grown hg fun k hk e => ?_
 subst e
 obtain ⟨o,ho,hc⟩:=hr k hk
 have h0:=h.cells 0
 rw [Array.getElem?_eq_getElem hC] at h0
 unfold World.cell? at h0
 simp only [ho] at h0
 cases o <;> simp_all [Obj.isCells]
theorem vD {b:Nat}:∀ (L:List Value) (w:World) (k:Nat),KeepsOthers w (putC w b k L)
 | [],w,_=>KeepsOthers.refl w
 | v::r,w,k=>(KeepsOthers.setCell w ⟨b,k,none⟩ v).trans (vD r _ (k+1))
set_option maxHeartbeats 8000000 in
theorem I9 (a:Option Addr) (cap:Nat) (ts:List ag) (w:World) (hl:ts.length <= 1048576) (hs:Ts w a ts) :
  Calls Tryz.prog 239 #[.slice a ts.length cap] w fun e w'=>(∃ xs,aX ts xs /\ ((xs=[] /\ e = .returned (.tuple #[.agg (aV ag.zero),.bool false]))∨∃ f,xs[0]?=some f /\ e = .returned (.tuple #[.agg (aV f),.bool true]))) /\ aa w w':=by
 refine (callsIn_wide (n:=5)).1 ?_
 refine callsIn_of_wp_marks Tryz.func239 rfl trivial ?_ rfl
 simp only [Tryz.ntmps239,List.size_toArray,List.length_cons,List.length_nil,Nat.reduceAdd,Nat.reduceSub,Array.replicate_succ,Array.replicate_zero,List.push_toArray,List.append_toArray,List.nil_append,List.cons_append]
 gi_wp2_with (refine ⟨trivial,?_⟩;gi_at_call 248;refine (callsIn_wide.2 (I0 _ _ _ _)).mono ?_;rintro e w' ⟨rfl,rfl⟩)
 have B1:ai (((w.alloc (.cells (aV ag.zero) 176)).alloc (.cells #[.bool false] 4)).alloc (.cells #[.slice a ts.length cap] 24)) w.heap.size (aV ag.zero):=((ai.new _ _ _).alloc _).alloc _
 have B2:ai (((w.alloc (.cells (aV ag.zero) 176)).alloc (.cells #[.bool false] 4)).alloc (.cells #[.slice a ts.length cap] 24)) (w.heap.size+1) #[.bool false]:=by
  have:=(ai.new (w.alloc (.cells (aV ag.zero) 176)) #[.bool false] 4).alloc (.cells #[.slice a ts.length cap] 24)
  simpa using this
 have B3:ai (((w.alloc (.cells (aV ag.zero) 176)).alloc (.cells #[.bool false] 4)).alloc (.cells #[.slice a ts.length cap] 24)) (w.heap.size+1+1) #[.slice a ts.length cap]:=by
  have:=ai.new ((w.alloc (.cells (aV ag.zero) 176)).alloc (.cells #[.bool false] 4)) #[.slice a ts.length cap] 24
  simpa using this
 have KW:aa w (((w.alloc (.cells (aV ag.zero) 176)).alloc (.cells #[.bool false] 4)).alloc (.cells #[.slice a ts.length cap] 24)):=(((aa.refl w).alloc _).alloc _).alloc _
 have hsz:(((w.alloc (.cells (aV ag.zero) 176)).alloc (.cells #[.bool false] 4)).alloc (.cells #[.slice a ts.length cap] 24)).heap.size=w.heap.size+3:=by simp
 change Code.wpIn _ _ _ _ _ _ (((w.alloc (.cells (aV ag.zero) 176)).alloc (.cells #[.bool false] 4)).alloc (.cells #[.slice a ts.length cap] 24))
 generalize (((w.alloc (.cells (aV ag.zero) 176)).alloc (.cells #[.bool false] 4)).alloc (.cells #[.slice a ts.length cap] 24))=W0 at *
 refine wpIn_rangeFunc_ownH rfl (by decide) (gf:=272) (lb:=#[.pointer (some ⟨w.heap.size+1+1,0,none⟩)]) rfl trivial (enters_of Tryz.func272 (by kernel_rfl) rfl)
  (I5 a cap ts (w.heap.size+1+1) W0 (by omega) (B3.cells 0) (hs.keeps KW) hl _) (fun h k=>h.trans k) (fun W l o o' _ h hc _=>KC.putObj W l o o' h hc) (Below.refl _ _) (fun _=>rfl)
  (fun pre W=>pre=[] /\ ai W w.heap.size (aV ag.zero) /\ ai W (w.heap.size+1) #[.bool false] /\ aa w W)
  (fun c pre W=>c = .ret /\ ∃ f,pre=[f] /\ ai W w.heap.size (aV f) /\ ai W (w.heap.size+1) #[.bool true] /\ aa w W)
  (fun s A B row h hg hr=>⟨h.1,h.2.1.other (by simp) hg fun r e=>(hr r e).2,h.2.2.1.other (by simp) hg fun r e=>(hr r e).2,h.2.2.2.grown hg fun k e=>by have:=(hr k e).1;omega⟩)
  (fun c s A B row h hg hr=>by
   obtain ⟨h1,f,h2,h3,h4,h5⟩:=h
   exact ⟨h1,f,h2,h3.other (by simp) hg fun r e=>(hr r e).2,h4.other (by simp) hg fun r e=>(hr r e).2,h5.grown hg fun k e=>by have:=(hr k e).1;omega⟩)
  ⟨rfl,B1,B2,KW⟩
  (fun x a' W=>∃ Bx,w.heap.size+2 <= Bx /\ ai W Bx (aV x) /\ a'={ tmps:=#[.slice a ts.length cap,undef,.pointer (some ⟨w.heap.size,0,none⟩),.pointer (some ⟨w.heap.size+1,0,none⟩),.pointer (some ⟨Bx,0,none⟩),.slice a ts.length cap,.func (.func 272) #[] #[.pointer (some ⟨w.heap.size+1+1,0,none⟩)],.agg (aV x),undef,undef],defers:=[] })
  (fun x a' s A B row h hg hr=>by
   obtain ⟨Bx,h1,h2,h3⟩:=h
   exact ⟨Bx,h1,h2.other (by simp) hg fun r e=>(hr r e).2,h3⟩) ?assign ?body ?done ?stop
 case assign =>
  rintro l pre x W K ⟨h1,h2,h3,h4⟩ hK
  gi_wp2
  exact hK _ _ ((KeepsOthers.alloc _ _).from _) (KC.of ((aa.refl W).alloc _)) ⟨h1,h2.alloc _,h3.alloc _,h4.alloc _⟩ ⟨W.heap.size,h3.lt,ai.new W (aV x) 176,rfl⟩
 case body =>
  rintro l pre x a' W hll - ⟨rfl,h2,h3,h4⟩ ⟨Bx,hBx,hX,rfl⟩ -
  have H2:Hid (ai W w.heap.size (aV ag.zero)):=h2
  have H3:Hid (ai W (w.heap.size+1) #[.bool false]):=h3
  obtain ⟨_,f1,f2⟩:=h2
  obtain ⟨_,g1,g2⟩:=h3
  obtain ⟨_,x1,x2⟩:=hX
  gi_wp2
  change ownPostG _ _ _ _ _ _ _ _ ((putC W w.heap.size 0 (aV x).toList).setCell ⟨w.heap.size+1,0,none⟩ (.bool true))
  exact ⟨((vD _ _ _).trans (KeepsOthers.setCell _ _ _)).from _,rfl,x,rfl,(H2.out.putC (aV x).toList rfl).far (by omega) _,(ai.aU (by omega) _ _ H3.out).set 0 (by simp) _,(aa.putC (b:=w.heap.size) (Nat.le_refl _) _ _ h4).setCell (by show _ <= w.heap.size+1;omega) _⟩
 case done =>
  rintro D ys W hD hS ⟨rfl,h2,h3,h4⟩ hK
  have D1:ai ((putC W w.heap.size 0 (aV ag.zero).toList).setCell ⟨w.heap.size+1,0,none⟩ (.bool false)) w.heap.size (aV ag.zero):=(h2.putC (aV ag.zero).toList rfl).far (by omega) _
  have D2:ai ((putC W w.heap.size 0 (aV ag.zero).toList).setCell ⟨w.heap.size+1,0,none⟩ (.bool false)) (w.heap.size+1) #[.bool false]:=(ai.aU (by omega) _ _ h3).set 0 (by simp) _
  have KY:aa w ((putC W w.heap.size 0 (aV ag.zero).toList).setCell ⟨w.heap.size+1,0,none⟩ (.bool false)):=(aa.putC (b:=w.heap.size) (Nat.le_refl _) _ _ h4).setCell (by show _ <= w.heap.size+1;omega) _
  have hK':=((vD (b:=w.heap.size) (aV ag.zero).toList W 0).trans (KeepsOthers.setCell _ ⟨w.heap.size+1,0,none⟩ (.bool false))).same D _ hK rfl
  obtain ⟨_,f1,f2⟩:=h2
  obtain ⟨_,g1,g2⟩:=h3
  gi_wp2
  change bodyPostM _ _ _ _ _ _ _ ((putC W w.heap.size 0 (aV ag.zero).toList).setCell ⟨w.heap.size+1,0,none⟩ (.bool false))
  generalize (putC W w.heap.size 0 (aV ag.zero).toList).setCell ⟨w.heap.size+1,0,none⟩ (.bool false)=Y at *
  refine ⟨by simp,.inl ⟨_,_,rfl,run_takeDeferred hK',?_⟩⟩
  have E1:=D1.other (by simp) (grownBy_putObj' Y D (.deferred none)) (fun r e=>by cases e;exact ⟨_,hK',rfl⟩)
  have E2:=D2.other (by simp) (grownBy_putObj' Y D (.deferred none)) (fun r e=>by cases e;exact ⟨_,hK',rfl⟩)
  have KE:=KY.grown (grownBy_putObj' Y D (.deferred none)) (fun k e=>by cases e;omega)
  refine ⟨.tuple #[.agg (aV ag.zero),.bool false],?_,⟨[],hS,.inl ⟨rfl,rfl⟩⟩,KE⟩
  simp [results,Tryz.results239,go_sem,E1.cells,E2.cells]
 case stop =>
  rintro D c pre W hD ⟨ys,hS,hp⟩ ⟨rfl,f,rfl,h2,h3,h4⟩ hK
  gi_wp2
  refine ⟨by simp,.inl ⟨_,_,rfl,run_takeDeferred hK,?_⟩⟩
  have E1:=h2.other (by simp) (grownBy_putObj' W D (.deferred none)) (fun r e=>by cases e;exact ⟨_,hK,rfl⟩)
  have E2:=h3.other (by simp) (grownBy_putObj' W D (.deferred none)) (fun r e=>by cases e;exact ⟨_,hK,rfl⟩)
  have KE:=h4.grown (grownBy_putObj' W D (.deferred none)) (fun k e=>by cases e;omega)
  obtain ⟨r,hr⟩:=hp
  refine ⟨.tuple #[.agg (aV f),.bool true],?_,⟨ys,hS,.inr ⟨f,by rw [<- hr];rfl,rfl⟩⟩,KE⟩
  simp [results,Tryz.results239,go_sem,E1.cells,E2.cells]
end
end Go.Proofs.YteagpjlgjfaclaaGreatDoor
