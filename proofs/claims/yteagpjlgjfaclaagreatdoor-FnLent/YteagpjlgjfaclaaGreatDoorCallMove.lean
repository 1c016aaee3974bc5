/-
  Calls: a task is moved.
  The walks of the exact laws of chapter 8, over contracts of
-/
import Derived.Test.YteagpjlgjfaclaaGreatDoorSysNewS
import Derived.Test.YteagpjlgjfaclaaGreatDoorLoneLeaves
import Derived.Test.YteagpjlgjfaclaaGreatDoorSysWake
import Derived.Test.YteagpjlgjfaclaaGreatDoorLate
import Derived.Deep.Cut
import Derived.Test.YteagpjlgjfaclaaGreatDoorDrawTask2
namespace Go.Proofs.YteagpjlgjfaclaaGreatDoor
set_option maxRecDepth 100000
open Go.RowKit
section
attribute [local go_sem] aa.refl aa.alloc aa.drew aa.drewN
set_option linter.unusedSimpArgs false in
set_option maxHeartbeats 8000000 in
theorem FK {w:World} {lo:Nat} {v:Sv} {vs:List Lv} {s:Sy} (h:ay w lo v vs s) (hl:lo <= w.heap.size) (R:cV s) (c:Cl) {k:Nat} {t:ag} (ht:s.tasks[k]?=some t) :
  Calls Tryz.prog 89 #[.agg (ae s v),ck c,.int .i64 k] w (fL w lo v vs (mr s c t) (qK s c k t)):=by
 obtain ⟨⟨ta,tn,ak⟩,⟨la,ln,aj⟩,⟨ga,gn,ao⟩,⟨fa,fn,aq⟩,⟨ra,rn,au⟩⟩:=v
 have hk:k < s.tasks.length:=da ht
 obtain ⟨tb,htb⟩:=h.bm hk
 dsimp only at htb
 subst htb
 have HK:Hid (s.tasks[k]?=some t):=ht
 have Hk:Hid (k < s.tasks.length):=hk
 have gi:=R.ld t (List.mem_of_getElem? ht)
 have hcs:=R.az
 have hfl:=R.ax
 have hwr:IntKind.i64.wrap (s.az - 1)=s.az - 1:=Go.IntWalk.i64_in _ (by omega)
 obtain ⟨oa,nU⟩:∃ z,Hid (kR s.af t.no=z):=⟨_,rfl⟩
 obtain ⟨za,Hz⟩:∃ z,Hid (d8 s.af t.no=z):=⟨_,rfl⟩
 obtain ⟨bad,dN⟩:∃ z,Hid (((t.cls != 3)||(oa||decide (0 <= za)))=z):=⟨_,rfl⟩
 have ee:Hid (mr s c t=if bad then 5 else if !aF c.cpu 0 (s.az - 1) then 1 else 0):=by
  show _=_
  have e1:(!decide (za < 0))=decide (0 <= za):=by rw [Bool.eq_iff_iff];simp
  unfold mr s8
  rw [nU.out,Hz.out,e1,dN.out]
 have hkn:(k:Int) < (tn:Int):=by have:=(h.t.row dC).1;dsimp only at this;omega
 obtain ⟨dG,dO,kZ⟩:=eU h hl c
 have C0:Hid (ai (du w ⟨⟨some ⟨tb,0,none⟩,tn,ak⟩,⟨la,ln,aj⟩,⟨ga,gn,ao⟩,⟨fa,fn,aq⟩,⟨ra,rn,au⟩⟩ s c) (w.heap.size+1) (cc c)):=dO
 have T0:∀ w',aa (du w ⟨⟨some ⟨tb,0,none⟩,tn,ak⟩,⟨la,ln,aj⟩,⟨ga,gn,ao⟩,⟨fa,fn,aq⟩,⟨ra,rn,au⟩⟩ s c) w'->∀ i,i < 14->w'.cell? ⟨tb,k*14+i,none⟩=(tc t)[i]?:=fun w' kk i hi=>((kZ.trans kk).cells tb _ (h.aG (i:=0) (b:=tb) rfl).2).trans ((h.aI (rb:=tb) rfl ht).1 i hi)
 have qI:∀ w',aa (du w ⟨⟨some ⟨tb,0,none⟩,tn,ak⟩,⟨la,ln,aj⟩,⟨ga,gn,ao⟩,⟨fa,fn,aq⟩,⟨ra,rn,au⟩⟩ s c) w'->w'.cell? ⟨tb,k*14,none⟩=some (.int .i64 t.no):=fun w' kk=>T0 w' kk 0 (by omega)
 have jU:Hid (aR w lo ⟨⟨some ⟨tb,0,none⟩,tn,ak⟩,⟨la,ln,aj⟩,⟨ga,gn,ao⟩,⟨fa,fn,aq⟩,⟨ra,rn,au⟩⟩ vs (du w ⟨⟨some ⟨tb,0,none⟩,tn,ak⟩,⟨la,ln,aj⟩,⟨ga,gn,ao⟩,⟨fa,fn,aq⟩,⟨ra,rn,au⟩⟩ s c) w.heap.size (w.heap.size+2) ⟨⟨some ⟨tb,0,none⟩,tn,ak⟩,⟨la,ln,aj⟩,⟨ga,gn,ao⟩,⟨fa,fn,aq⟩,⟨ra,rn,au⟩⟩ vs s):=dG
 have lR:Hid (aA (du w ⟨⟨some ⟨tb,0,none⟩,tn,ak⟩,⟨la,ln,aj⟩,⟨ga,gn,ao⟩,⟨fa,fn,aq⟩,⟨ra,rn,au⟩⟩ s c) ⟨⟨some ⟨tb,0,none⟩,tn,ak⟩,⟨la,ln,aj⟩,⟨ga,gn,ao⟩,⟨fa,fn,aq⟩,⟨ra,rn,au⟩⟩ s):=(h.on (by have:=R.small;omega)).keeps kZ
 clear dG dO h
 go_enter Tryz.func89,Tryz.ntmps89
 go_upto_region 1 with fail
 change Code.wp _ _ _ _ (du w ⟨⟨some ⟨tb,0,none⟩,tn,ak⟩,⟨la,ln,aj⟩,⟨ga,gn,ao⟩,⟨fa,fn,aq⟩,⟨ra,rn,au⟩⟩ s c)
 generalize du w ⟨⟨some ⟨tb,0,none⟩,tn,ak⟩,⟨la,ln,aj⟩,⟨ga,gn,ao⟩,⟨fa,fn,aq⟩,⟨ra,rn,au⟩⟩ s c=Z0 at *
 have kS:∀ w',aa Z0 w'->∀ q,w'.cell? ⟨w.heap.size,q,none⟩=(ae s ⟨⟨some ⟨tb,0,none⟩,tn,ak⟩,⟨la,ln,aj⟩,⟨ga,gn,ao⟩,⟨fa,fn,aq⟩,⟨ra,rn,au⟩⟩)[q]?:=fun w' k=>(jU.out.g.var.box.keeps k).cells
 dsimp only [ae] at kS
 go_upto_region 2 with fail
 have TB:Hid (ai (Z0.alloc (.cells (tc t) 43)) Z0.heap.size (tc t)):=ai.new _ _ _
 have A0:Hid (aR w lo ⟨⟨some ⟨tb,0,none⟩,tn,ak⟩,⟨la,ln,aj⟩,⟨ga,gn,ao⟩,⟨fa,fn,aq⟩,⟨ra,rn,au⟩⟩ vs (Z0.alloc (.cells (tc t) 43)) w.heap.size (w.heap.size+2) ⟨⟨some ⟨tb,0,none⟩,tn,ak⟩,⟨la,ln,aj⟩,⟨ga,gn,ao⟩,⟨fa,fn,aq⟩,⟨ra,rn,au⟩⟩ vs s):=jU.out.keeps ((aa.refl _).alloc _)
 have HS:Hid (aA (Z0.alloc (.cells (tc t) 43)) ⟨⟨some ⟨tb,0,none⟩,tn,ak⟩,⟨la,ln,aj⟩,⟨ga,gn,ao⟩,⟨fa,fn,aq⟩,⟨ra,rn,au⟩⟩ s):=lR.out.keeps ((aa.refl _).alloc _)
 have Fy:Hid (∀ i,¬ bp ⟨⟨some ⟨tb,0,none⟩,tn,ak⟩,⟨la,ln,aj⟩,⟨ga,gn,ao⟩,⟨fa,fn,aq⟩,⟨ra,rn,au⟩⟩ vs i Z0.heap.size):=fun i hi=>by have:=(jU.out.g.var.own.aG hi).2;omega
 have fj:w.heap.size≠Z0.heap.size:=by have:=jU.out.g.var.box.lt;omega
 have hrb:w.heap.size+2≠Z0.heap.size:=by have:=jU.out.r.lt;omega
 have C1:Hid (ai (Z0.alloc (.cells (tc t) 43)) (w.heap.size+1) (cc c)):=C0.out.keeps ((aa.refl _).alloc _)
 change Code.wp _ _ _ _ (Z0.alloc (.cells (tc t) 43))
 clear T0 qI kS jU lR kZ C0
 generalize Z0.alloc (.cells (tc t) 43)=Z at *
 generalize Z0.heap.size=iq at *
 have hb0:∀ w',aa Z w'->∀ q,w'.cell? ⟨w.heap.size,q,none⟩=(ae s ⟨⟨some ⟨tb,0,none⟩,tn,ak⟩,⟨la,ln,aj⟩,⟨ga,gn,ao⟩,⟨fa,fn,aq⟩,⟨ra,rn,au⟩⟩)[q]?:=fun w' k=>(A0.out.g.var.box.keeps k).cells
 dsimp only [ae] at hb0
 have ht0:∀ w',aa Z w'->∀ j,w'.cell? ⟨iq,j,none⟩=(tc t)[j]?:=fun w' k=>(TB.out.keeps k).cells
 have hc0:∀ w',aa Z w'->∀ q,w'.cell? ⟨w.heap.size+1,q,none⟩=(cc c)[q]?:=fun w' k=>(C1.out.keeps k).cells
 have OA:Hid (∀ w',aa Z w'->Calls Tryz.prog 148 #[.slice la ln aj,.int .i64 t.no] w' fun e w''=>e = .returned (.bool oa) /\ aa w' w''):=fun w' kk=>HS.out.gL.iG t.no nU.out kk
 have WA:Hid (∀ w',aa Z w'->Calls Tryz.prog 84 #[.slice la ln aj,.int .i64 t.no] w' fun e w''=>e = .returned (.int .i64 za) /\ aa w' w''):=fun w' kk=>HS.out.gL.fv t.no Hz.out kk
 go_cut [14] (fun b wx=>b = .bool bad /\ aa Z wx)
 case first =>
  cases d1:(t.cls != 3)
  rotate_left
  ·have hr:bad=true:=by rw [<- dN.out,d1];rfl
   go_wp2
   go_meet
   exact ⟨by rw [hr],aa.refl _⟩
  cases oa
  rotate_left
  ·have hr:bad=true:=by rw [<- dN.out,d1];rfl
   go_wp2_with (go_at_call 148;refine (OA.out _ (by first | assumption | exact aa.refl _ | exact (aa.refl _).drew | exact aa.drew (by assumption))).mono ?_;rintro e w5 ⟨rfl,k5⟩)
   go_meet
   exact ⟨by rw [hr],k5⟩
  have hr:bad=decide (0 <= za):=by rw [<- dN.out,d1];rfl
  go_wp2_with (go_at_call 148;refine (OA.out _ (by first | assumption | exact aa.refl _ | exact (aa.refl _).drew | exact aa.drew (by assumption))).mono ?_;rintro e w5 ⟨rfl,k5⟩)
  have Fz:aa Z w5:=k5
  go_wp2_with (go_at_call 84;refine (WA.out _ (by first | assumption | exact aa.refl _ | exact (aa.refl _).drew | exact aa.drew (by assumption))).mono ?_;rintro e w6 ⟨rfl,k6⟩)
  go_meet
  exact ⟨by rw [hr],k5.trans k6⟩
 case rest =>
 obtain ⟨rfl,kx⟩:=hcut
 generalize wc=wx at *
 clear OA WA dN Hz nU
 cases bad
 rotate_left
 ·have HN:Hid (mr s c t=5):=ee.out
  have AE:=A0.out.keeps kx
  obtain ⟨_,o1,o2⟩:=AE.g.var.box
  dsimp only [ae] at o1
  obtain ⟨_,r1,r2⟩:=AE.r
  go_wp2
  exact AE.ret HN.out (fun h=>absurd h (by decide)) rfl (fun Q D=>by simp [results,Tryz.results89,go_sem,D])
 cases c2:aF c.cpu 0 (s.az - 1)
 ·have HN:Hid (mr s c t=1):=by show _=_;rw [ee.out,c2];rfl
  go_wp2_with fail
  refine (bn _ _ _ _).mono ?_
  rintro e w' ⟨rfl,hw'⟩
  have hw2:=hw'.symm
  subst hw2
  rw [c2]
  have AE:=A0.out.keeps kx
  obtain ⟨_,o1,o2⟩:=AE.g.var.box
  dsimp only [ae] at o1
  obtain ⟨_,r1,r2⟩:=AE.r
  go_wp2
  exact AE.ret HN.out (fun h=>absurd h (by decide)) rfl (fun Q D=>by simp [results,Tryz.results89,go_sem,D])
 have HN:Hid (mr s c t=0):=by show _=_;rw [ee.out,c2];rfl
 obtain ⟨q0,q1⟩:=dq.1 c2
 obtain ⟨ck,cn,cp,ca,cb⟩:=c
 dsimp only at q0 q1 c2
 obtain ⟨q,rfl⟩:∃ q:Nat,cp=(q:Int):=⟨cp.toNat,by omega⟩
 obtain ⟨p,hp⟩:∃ p:Nat,t.cpu=(p:Int):=⟨t.cpu.toNat,by omega⟩
 obtain ⟨u,rfl⟩:∃ u:ag,t={ u with cpu:=(p:Int) }:=⟨t,by rw [<- hp]⟩
 dsimp only at gi
 obtain ⟨x1,hx1⟩:=bW (xs:=s.ax) (k:=p) (by omega)
 obtain ⟨x2,hx2⟩:=bW (xs:=s.ax) (k:=q) (by omega)
 obtain ⟨fb,lf⟩:=A0.out.g.var.own.iH (k:=p) (by omega)
 dsimp only at lf
 subst lf
 have hfn:=(A0.out.g.var.own.f.row fW).1
 dsimp only at hfn
 have hpn:(p:Int) < (fn:Int):=by omega
 have Pp:(q:Int) < (fn:Int):=by omega
 have F1:∀ w',aa Z w'->w'.cell? ⟨fb,p,none⟩=some (.int .i64 x1):=fun w' kk=>by
  obtain ⟨f1,-,f3,-⟩:=A0.out.g.var.own.fN (fb:=fb) rfl hx1
  exact (kk.cells fb _ f3).trans f1
 have F2:∀ w',aa Z w'->w'.cell? ⟨fb,q,none⟩=some (.int .i64 x2):=fun w' kk=>by
  obtain ⟨f1,-,f3,-⟩:=A0.out.g.var.own.fN (fb:=fb) rfl hx2
  exact (kk.cells fb _ f3).trans f1
 obtain ⟨NT,jw⟩:∃ N,Hid (jf { u with cpu:=(p:Int) } q x1 x2=N):=⟨_,rfl⟩
 have HC:Hid ({ (s:Sy) with tasks:=s.tasks.set k NT }=qK s ⟨ck,cn,q,ca,cb⟩ k { u with cpu:=(p:Int) }):=by
  show _=_
  unfold qK
  dsimp only
  rw [Int.toNat_natCast,Int.toNat_natCast,List.getD_eq_getElem?_getD,List.getD_eq_getElem?_getD,hx1,hx2,Option.getD_some,Option.getD_some,jw.out]
 clear hx1 hx2 hfn hp gi hfl
 go_upto_region 6 with (go_at_call 27;refine (bn _ _ _ _).mono ?_;rintro e w' ⟨rfl,hw'⟩;have hw2:=hw'.symm;subst hw2;rw [c2])
 refine lO 20 (S:=(fun w'=>aa Z w')) (by kernel_rfl) ?_ (fun hHeld => ?_)
 ·exact kx.drew
 refine ad.go [0,1,2,3,4,5,6,7,8,9,10,11,12,13,14,15,16,17] ?_
 iterate 18 (refine iB (h := ?_);try simp only [ar])
 refine ad.nil ?_
 refine hH (i:=18) (h:=fun K hK => ?_)
 go_simp
 (go_at_call 153;refine (FY { u with cpu:=(p:Int) } q x1 x2 _).mono ?_;rintro e w8 ⟨rfl,k8⟩;rw [jw.out])
 try go_wp2_with fail
 refine hK.out _ _ ?_ fun hHeld => ?_
 ·first | assumption | exact aa.trans (by assumption) (by assumption)
 clear hK K
 try simp only [ar]
 refine ad.go [19] ?_
 iterate 1 (refine iB (h := ?_);try simp only [ar])
 refine ad.nil ?_
 refine lP (h:=fun K hK => ?_)
 have K8:aa Z w8:=(by assumption);have A8:=A0.out.keeps K8;obtain ⟨z1,z2⟩:=A8.g.var.own.aI (rb:=tb) rfl (k:=k) HK.out;have y0:w8.cell? ⟨tb,k*14,none⟩=some (.int .i64 u.no):=z1 0 (by omega)
 go_simp
 try go_wp2_with fail
 refine hK.out _ _ ?_
 clear hK K
 try simp only [ar]
 have AN:Hid (aR w lo ⟨⟨some ⟨tb,0,none⟩,tn,ak⟩,⟨la,ln,aj⟩,⟨ga,gn,ao⟩,⟨some ⟨fb,0,none⟩,fn,aq⟩,⟨ra,rn,au⟩⟩ vs (putC w8 tb (k*14) (tc NT).toList) w.heap.size (w.heap.size+2) ⟨⟨some ⟨tb,0,none⟩,tn,ak⟩,⟨la,ln,aj⟩,⟨ga,gn,ao⟩,⟨some ⟨fb,0,none⟩,fn,aq⟩,⟨ra,rn,au⟩⟩ vs { (s:Sy) with tasks:=s.tasks.set k NT }):=A8.task (tb:=tb) rfl Hk.out NT
 clear z1 z2 y0 A8 K8 hb0 hc0 ht0 F1 F2 hHeld
 change Exit.then _ _ _ _ (putC w8 tb (k*14) (tc NT).toList)
 generalize putC w8 tb (k*14) (tc NT).toList=X9 at *
 have AE:=AN.out
 obtain ⟨_,o1,o2⟩:=AE.g.var.box
 dsimp only [ae] at o1
 obtain ⟨_,r1,r2⟩:=AE.r
 go_wp2
 exact AE.ret HN.out (fun _=>HC.out) rfl (fun Q D=>by simp [results,Tryz.results89,go_sem,D])
end
variable {p:Bool}
attribute [local go_sem] aa.refl aa.alloc aa.drew aa.drewN
def FZ:Prop:=∀ (a b:ag) (w:World),Calls Tryz.prog 41 #[tk a,tk b] w fun e w'=>e = .returned (.bool (bh a b)) /\ aa w w'
def uW:Prop:=∀ (w:World) (a:Option Addr) (n cap:Nat) (ts:List ag) (b:Option Addr) (m cap2:Nat) (ls:List Lk) (no:Int),n <= cap->Two w a n cap ts b m cap2 ls->Calls Tryz.prog 10 #[.slice a n cap,.slice b m cap2,.int .i64 no] w fun e w'=>e = .returned (.int .i64 (qc4 ts ls no)) /\ aa w w'
def F0:Prop:=∀ (w:World) (a:Option Addr) (n cap:Nat) (ts:List ag) (b:Option Addr) (cap2:Nat) (xs:List Int),n <= cap->xs.length <= cap2->xs.length <= maxLen->fk w a n cap ts->Ns w b xs->Calls Tryz.prog 13 #[.slice a n cap,.slice b xs.length cap2] w fun e w'=>e = .returned (.int .i64 (eO ts xs)) /\ aa w w'
end Go.Proofs.YteagpjlgjfaclaaGreatDoor
