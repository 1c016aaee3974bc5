/-
  Calls: a task ends.
  Calls: what is done of a right call: sleep, waking, a new n
  Calls: what is done of a right call: an end, locks, a move.
-/
import Derived.Test.YteagpjlgjfaclaaGreatDoorSysNewS
import Derived.Test.YteagpjlgjfaclaaGreatDoorSysTurn
import Derived.Test.YteagpjlgjfaclaaGreatDoorLate
import Derived.Test.YteagpjlgjfaclaaGreatDoorSysShares
import Derived.Deep.Cut
import Derived.Test.YteagpjlgjfaclaaGreatDoorCallDo0
import Derived.Test.YteagpjlgjfaclaaGreatDoorCallLock
import Derived.Test.YteagpjlgjfaclaaGreatDoorCallMove
namespace Go.Proofs.YteagpjlgjfaclaaGreatDoor
set_option maxRecDepth 100000
open Go.RowKit
attribute [local go_sem] aa.refl aa.alloc aa.drew aa.drewN
theorem yZ {α:Type} {xs:List α} {i k:Nat} {x:α} (h:xs[i]?=some x):(xs.take (i+1)).eraseIdx k=if i=k then (xs.take i).eraseIdx k else (xs.take i).eraseIdx k++[x]:=by
 have hi:=da h
 have hl:(xs.take i).length=i:=by rw [List.length_take];omega
 rw [jT h]
 by_cases h1:k < i
 ·rw [if_neg (by omega),List.eraseIdx_append_of_lt_length (by omega)]
 ·rw [List.eraseIdx_append_of_length_le (by omega),hl,List.eraseIdx_of_length_le (l:=xs.take i) (by omega)]
  by_cases h2:i=k
  ·rw [if_pos h2,show k - i=0 from by omega];simp
  ·rw [if_neg h2,show k - i=(k - i - 1)+1 from by omega];simp
set_option linter.unusedSimpArgs false in
set_option maxHeartbeats 8000000 in
theorem Fx {w:World} {lo:Nat} {v:Sv} {vs:List Lv} {s:Sy} (h:ay w lo v vs s) (hl:lo <= w.heap.size) (R:cV s) {k:Nat} {t:ag} (ht:s.tasks[k]?=some t) :
  Calls Tryz.prog 85 #[.agg (ae s v),.int .i64 k] w (fL w lo v vs (lQ s t) (nf s k t)):=by
 obtain ⟨⟨ta,tn,ak⟩,⟨la,ln,aj⟩,⟨ga,gn,ao⟩,⟨fa,fn,aq⟩,⟨ra,rn,au⟩⟩:=v
 have hk:k < s.tasks.length:=da ht
 obtain ⟨tb,htb⟩:=h.bm hk
 dsimp only at htb
 subst htb
 have HL:Hid (s.tasks.length=tn):=(h.t.row dC).1
 have HG:Hid (s.ah.length=gn):=(h.g.row jS).1
 have htn:tn <= 12:=by rw [<- HL.out];exact R.few.1
 have hgn:gn <= 12:=by rw [<- HG.out];exact R.few.2.2.1
 obtain ⟨oa,nU⟩:∃ z,Hid (kR s.af t.no=z):=⟨_,rfl⟩
 obtain ⟨za,Hz⟩:∃ z,Hid (d8 s.af t.no=z):=⟨_,rfl⟩
 obtain ⟨bad,dN⟩:∃ z,Hid ((oa||decide (0 <= za))=z):=⟨_,rfl⟩
 obtain ⟨lv,qG⟩:∃ z,Hid (qH s t=z):=⟨_,rfl⟩
 have ee:Hid (lQ s t=if bad then 5 else if lv&&gn==12 then 4 else 0):=by
  show _=_
  have e1:(!decide (za < 0))=decide (0 <= za):=by rw [Bool.eq_iff_iff];simp
  unfold lQ s8
  rw [nU.out,Hz.out,e1,dN.out,qG.out,HG.out]
 have mq:Hid (nf s k t={ (s:Sy) with ah:=if lv then s.ah++[ng t] else s.ah,tasks:=s.tasks.eraseIdx k }):=by
  show _=_
  unfold nf
  rw [qG.out]
 have hkn:(k:Int) < (tn:Int):=by have:=(h.t.row dC).1;dsimp only at this;omega
 obtain ⟨dG,kZ⟩:=uO h hl
 have T0:∀ w',aa (nh w ⟨⟨some ⟨tb,0,none⟩,tn,ak⟩,⟨la,ln,aj⟩,⟨ga,gn,ao⟩,⟨fa,fn,aq⟩,⟨ra,rn,au⟩⟩ s) w'->∀ i,i < 14->w'.cell? ⟨tb,k*14+i,none⟩=(tc t)[i]?:=fun w' kk i hi=>((kZ.trans kk).cells tb _ (h.aG (i:=0) (b:=tb) rfl).2).trans ((h.aI (rb:=tb) rfl ht).1 i hi)
 have qI:∀ w',aa (nh w ⟨⟨some ⟨tb,0,none⟩,tn,ak⟩,⟨la,ln,aj⟩,⟨ga,gn,ao⟩,⟨fa,fn,aq⟩,⟨ra,rn,au⟩⟩ s) w'->w'.cell? ⟨tb,k*14,none⟩=some (.int .i64 t.no):=fun w' kk=>T0 w' kk 0 (by omega)
 have jU:Hid (aR w lo ⟨⟨some ⟨tb,0,none⟩,tn,ak⟩,⟨la,ln,aj⟩,⟨ga,gn,ao⟩,⟨fa,fn,aq⟩,⟨ra,rn,au⟩⟩ vs (nh w ⟨⟨some ⟨tb,0,none⟩,tn,ak⟩,⟨la,ln,aj⟩,⟨ga,gn,ao⟩,⟨fa,fn,aq⟩,⟨ra,rn,au⟩⟩ s) w.heap.size (w.heap.size+1) ⟨⟨some ⟨tb,0,none⟩,tn,ak⟩,⟨la,ln,aj⟩,⟨ga,gn,ao⟩,⟨fa,fn,aq⟩,⟨ra,rn,au⟩⟩ vs s):=dG
 have lR:Hid (aA (nh w ⟨⟨some ⟨tb,0,none⟩,tn,ak⟩,⟨la,ln,aj⟩,⟨ga,gn,ao⟩,⟨fa,fn,aq⟩,⟨ra,rn,au⟩⟩ s) ⟨⟨some ⟨tb,0,none⟩,tn,ak⟩,⟨la,ln,aj⟩,⟨ga,gn,ao⟩,⟨fa,fn,aq⟩,⟨ra,rn,au⟩⟩ s):=(h.on (by have:=R.small;omega)).keeps kZ
 clear dG  h
 go_enter Tryz.func85,Tryz.ntmps85
 go_upto_region 1 with fail
 change Code.wp _ _ _ _ (nh w ⟨⟨some ⟨tb,0,none⟩,tn,ak⟩,⟨la,ln,aj⟩,⟨ga,gn,ao⟩,⟨fa,fn,aq⟩,⟨ra,rn,au⟩⟩ s)
 generalize nh w ⟨⟨some ⟨tb,0,none⟩,tn,ak⟩,⟨la,ln,aj⟩,⟨ga,gn,ao⟩,⟨fa,fn,aq⟩,⟨ra,rn,au⟩⟩ s=Z0 at *
 have kS:∀ w',aa Z0 w'->∀ q,w'.cell? ⟨w.heap.size,q,none⟩=(ae s ⟨⟨some ⟨tb,0,none⟩,tn,ak⟩,⟨la,ln,aj⟩,⟨ga,gn,ao⟩,⟨fa,fn,aq⟩,⟨ra,rn,au⟩⟩)[q]?:=fun w' k=>(jU.out.g.var.box.keeps k).cells
 dsimp only [ae] at kS
 go_upto_region 2 with fail
 have TB:Hid (ai (Z0.alloc (.cells (tc t) 43)) Z0.heap.size (tc t)):=ai.new _ _ _
 have A0:Hid (aR w lo ⟨⟨some ⟨tb,0,none⟩,tn,ak⟩,⟨la,ln,aj⟩,⟨ga,gn,ao⟩,⟨fa,fn,aq⟩,⟨ra,rn,au⟩⟩ vs (Z0.alloc (.cells (tc t) 43)) w.heap.size (w.heap.size+1) ⟨⟨some ⟨tb,0,none⟩,tn,ak⟩,⟨la,ln,aj⟩,⟨ga,gn,ao⟩,⟨fa,fn,aq⟩,⟨ra,rn,au⟩⟩ vs s):=jU.out.keeps ((aa.refl _).alloc _)
 have HS:Hid (aA (Z0.alloc (.cells (tc t) 43)) ⟨⟨some ⟨tb,0,none⟩,tn,ak⟩,⟨la,ln,aj⟩,⟨ga,gn,ao⟩,⟨fa,fn,aq⟩,⟨ra,rn,au⟩⟩ s):=lR.out.keeps ((aa.refl _).alloc _)
 have Fy:Hid (∀ i,¬ bp ⟨⟨some ⟨tb,0,none⟩,tn,ak⟩,⟨la,ln,aj⟩,⟨ga,gn,ao⟩,⟨fa,fn,aq⟩,⟨ra,rn,au⟩⟩ vs i Z0.heap.size):=fun i hi=>by have:=(jU.out.g.var.own.aG hi).2;omega
 have fj:w.heap.size≠Z0.heap.size:=by have:=jU.out.g.var.box.lt;omega
 have hrb:w.heap.size+1≠Z0.heap.size:=by have:=jU.out.r.lt;omega
 change Code.wp _ _ _ _ (Z0.alloc (.cells (tc t) 43))
 clear T0 qI kS jU lR kZ
 generalize Z0.alloc (.cells (tc t) 43)=Z at *
 generalize Z0.heap.size=iq at *
 have hb0:∀ w',aa Z w'->∀ q,w'.cell? ⟨w.heap.size,q,none⟩=(ae s ⟨⟨some ⟨tb,0,none⟩,tn,ak⟩,⟨la,ln,aj⟩,⟨ga,gn,ao⟩,⟨fa,fn,aq⟩,⟨ra,rn,au⟩⟩)[q]?:=fun w' k=>(A0.out.g.var.box.keeps k).cells
 dsimp only [ae] at hb0
 have ht0:∀ w',aa Z w'->∀ j,w'.cell? ⟨iq,j,none⟩=(tc t)[j]?:=fun w' k=>(TB.out.keeps k).cells
 have OA:Hid (∀ w',aa Z w'->Calls Tryz.prog 148 #[.slice la ln aj,.int .i64 t.no] w' fun e w''=>e = .returned (.bool oa) /\ aa w' w''):=fun w' kk=>HS.out.gL.iG t.no nU.out kk
 have WA:Hid (∀ w',aa Z w'->Calls Tryz.prog 84 #[.slice la ln aj,.int .i64 t.no] w' fun e w''=>e = .returned (.int .i64 za) /\ aa w' w''):=fun w' kk=>HS.out.gL.fv t.no Hz.out kk
 go_cut [26] (fun b wx=>b = .bool bad /\ aa Z wx)
 case first =>
  cases oa
  rotate_left
  ·have hr:bad=true:=by rw [<- dN.out];rfl
   go_wp2_with (go_at_call 148;refine (OA.out _ (by first | assumption | exact aa.refl _ | exact (aa.refl _).drew | exact aa.drew (by assumption))).mono ?_;rintro e w5 ⟨rfl,k5⟩)
   go_meet
   exact ⟨by rw [hr],k5⟩
  have hr:bad=decide (0 <= za):=by rw [<- dN.out];rfl
  go_wp2_with (go_at_call 148;refine (OA.out _ (by first | assumption | exact aa.refl _ | exact (aa.refl _).drew | exact aa.drew (by assumption))).mono ?_;rintro e w5 ⟨rfl,k5⟩)
  have Fz:aa Z w5:=k5
  go_wp2_with (go_at_call 84;refine (WA.out _ (by first | assumption | exact aa.refl _ | exact (aa.refl _).drew | exact aa.drew (by assumption))).mono ?_;rintro e w6 ⟨rfl,k6⟩)
  go_meet
  exact ⟨by rw [hr],k5.trans k6⟩
 case rest =>
 obtain ⟨rfl,kx⟩:=hcut
 generalize wc=wx at *
 clear OA WA dN Hz nU
 cases bad
 rotate_left
 ·have HN:Hid (lQ s t=5):=ee.out
  have AE:=A0.out.keeps kx
  obtain ⟨_,o1,o2⟩:=AE.g.var.box
  dsimp only [ae] at o1
  obtain ⟨_,r1,r2⟩:=AE.r
  go_wp2
  exact AE.ret HN.out (fun h=>absurd h (by decide)) rfl (fun Q D=>by simp [results,Tryz.results85,go_sem,D])
 have AX:Hid (aR w lo ⟨⟨some ⟨tb,0,none⟩,tn,ak⟩,⟨la,ln,aj⟩,⟨ga,gn,ao⟩,⟨fa,fn,aq⟩,⟨ra,rn,au⟩⟩ vs wx w.heap.size (w.heap.size+1) ⟨⟨some ⟨tb,0,none⟩,tn,ak⟩,⟨la,ln,aj⟩,⟨ga,gn,ao⟩,⟨fa,fn,aq⟩,⟨ra,rn,au⟩⟩ vs s):=A0.out.keeps kx
 have TX:Hid (ai wx iq (tc t)):=TB.out.keeps kx
 have hbx:∀ w',aa wx w'->∀ j,w'.cell? ⟨w.heap.size,j,none⟩=_:=fun w' kk=>hb0 w' (kx.trans kk)
 have htx:∀ w',aa wx w'->∀ j,w'.cell? ⟨iq,j,none⟩=_:=fun w' kk=>ht0 w' (kx.trans kk)
 clear hb0 ht0
 go_upto_region 4 with fail
 go_cut [37] (fun b wy=>b = .bool lv /\ wy=wx)
 case first =>
  cases d3:(t.cls==1)
  ·have hr:lv=false:=by rw [<- qG.out];unfold qH;rw [d3];rfl
   go_wp2
   go_meet
   exact ⟨by rw [hr],rfl⟩
  have hr:lv=decide (s.now < t.due):=by rw [<- qG.out];unfold qH;rw [d3];rfl
  go_wp2
  go_meet
  exact ⟨by rw [hr],rfl⟩
 case rest =>
 obtain ⟨rfl,FA⟩:=hcut
 have uP:=FA.symm
 subst uP
 clear qG
 cases lv
 ·have HN:Hid (lQ s t=0):=ee.out
  clear htx
  have hbX:∀ w',aa wx w'->∀ j,w'.cell? ⟨w.heap.size,j,none⟩=(ae (s:Sy) ⟨⟨some ⟨tb,0,none⟩,tn,ak⟩,⟨la,ln,aj⟩,⟨ga,gn,ao⟩,⟨fa,fn,aq⟩,⟨ra,rn,au⟩⟩)[j]?:=fun w' kk=>(AX.out.g.var.box.keeps kk).cells
  dsimp only [ae] at hbX
  have TR:Hid (∀ (m:Nat) (x:ag),s.tasks[m]?=some x->∀ w',aa wx w'->∀ j,j < 14->w'.cell? ⟨tb,m*14+j,none⟩=(tc x)[j]?):=fun m x hm w' kk j hj=>(kk.cells tb _ (AX.out.g.var.own.aG (i:=0) (b:=tb) rfl).2).trans ((AX.out.g.var.own.aI (rb:=tb) rfl hm).1 j hj)
  go_wp2_with fail
  have kz:aa wx (wx.alloc (.cells #[] 43)):=(aa.refl _).alloc _
  have dQ:dH (wx.alloc (.cells #[] 43)) wx.heap.size (.slice (some ⟨wx.heap.size,0,none⟩) 0 0) []:=Own.new 43 14 tc wx (Nat.le_refl _)
  generalize wx.alloc (.cells #[] 43)=W at *
  go_loopw [7,8] (fun v i wr=>∃ (m:Nat) (xs:List ag),m <= tn /\ i = .int .i64 m /\ xs.length <= m /\ Hid (xs=(s.tasks.take m).eraseIdx k) /\ Hid (dH wr wx.heap.size v xs) /\ aa wx wr) (fun _ i _=>tn - (intOf i).toNat)
  case atStart=>exact ⟨0,[],Nat.zero_le _,rfl,Nat.le_refl _,by show _=_;simp,dQ,kz⟩
  case round =>
   obtain ⟨m,xs,hm,rfl,hxl,HX,HW,hK⟩:=hrel
   clear dQ kz
   by_cases hlt:m < tn
   ·have hlt':(m:Int) < (tn:Int):=by omega
    obtain ⟨x,hx⟩:=bW (xs:=s.tasks) (k:=m) (by rw [HL.out];exact hlt)
    have r1:∀ w',aa wx w'->∀ j,j < 14->w'.cell? ⟨tb,m*14+j,none⟩=(tc x)[j]?:=TR.out m x hx
    have r0:∀ w',aa wx w'->w'.cell? ⟨tb,m*14,none⟩=some (.int .i64 x.no):=fun w' kk=>r1 w' kk 0 (by omega)
    have HE:Hid ((s.tasks.take (m+1)).eraseIdx k=if m=k then xs else xs++[x]):=by show _=_;rw [yZ hx,<- HX.out]
    clear hx HX
    by_cases hmk:m=k
    ·have hne:((m:Int) != (k:Int))=false:=by simp [hmk]
     have kT:Hid (xs=(s.tasks.take (m+1)).eraseIdx k):=by show _=_;rw [HE.out,if_pos hmk]
     clear hmk HE
     go_wp2
     exact ⟨⟨m+1,xs,by omega,by go_num,by omega,kT,HW,hK⟩,by simp only [intOf];omega⟩
    ·have hne:((m:Int) != (k:Int))=true:=by simp;omega
     have kT:Hid (xs++[x]=(s.tasks.take (m+1)).eraseIdx k):=by show _=_;rw [HE.out,if_neg hmk]
     clear hmk HE
     go_wp2_with (at_builtin;(refine iE rfl _ _ 24 rfl wx 43 (.agg (tc ag.zero)) 14 112 tc Tryz.underlying24 (by kernel_rfl) rfl (by decide) dC ja _ xs rfl wr HW.out hK ((aa.refl _).alloc _) x _ 1 (ai.new _ _ _) rfl ?c1 ?c2 ?_))
     case c1=>unfold maxLen;omega
     case c2=>omega
     intro v' w5 cP k5 _
     have uQ:Hid (dH w5 wx.heap.size v' (xs++[x])):=cP
     clear cP HW
     go_wp2
     exact ⟨⟨m+1,xs++[x],by omega,by go_num,by simp;omega,kT,uQ,k5⟩,by simp only [intOf];omega⟩
   ·have hlt':decide ((m:Int) < (tn:Int))=false:=by simp;omega
    have kT:Hid (xs=s.tasks.eraseIdx k):=by
     have h1:=HX.out
     rw [List.take_of_length_le (by have:=HL.out;omega)] at h1
     exact h1
    clear HX
    obtain ⟨a9,c9,e9⟩:=HW.out.form dC
    obtain ⟨n9,uR⟩:∃ n,Hid (xs.length=n):=⟨_,rfl⟩
    rw [uR.out] at e9
    subst e9
    have AN:Hid (aR w lo ⟨⟨some ⟨tb,0,none⟩,tn,ak⟩,⟨la,ln,aj⟩,⟨ga,gn,ao⟩,⟨fa,fn,aq⟩,⟨ra,rn,au⟩⟩ vs (wr.setCell ⟨w.heap.size,2,none⟩ (.slice a9 n9 c9)) w.heap.size (w.heap.size+1) ⟨⟨a9,n9,c9⟩,⟨la,ln,aj⟩,⟨ga,gn,ao⟩,⟨fa,fn,aq⟩,⟨ra,rn,au⟩⟩ vs { (s:Sy) with tasks:=xs }):=AX.out.tasks hK (x:=⟨a9,n9,c9⟩) HW.out
    have HC:Hid ({ (s:Sy) with tasks:=xs }=nf s k t):=by show _=_;rw [mq.out,kT.out];rfl
    obtain ⟨_,p1,p2⟩:=(AX.out.keeps hK).g.var.box
    dsimp only [ae] at p1
    have hsz:w.heap.size+1≠w.heap.size:=by omega
    have AE:=AN.out
    obtain ⟨_,o1,o2⟩:=AE.g.var.box
    dsimp only [ae] at o1
    obtain ⟨_,r1,r2⟩:=AE.r
    go_wp2
    exact AE.ret HN.out (fun _=>HC.out) rfl (fun Q D=>by simp [results,Tryz.results85,go_sem,D])
 cases g12:(gn==12)
 rotate_left
 ·have HN:Hid (lQ s t=4):=by show _=_;rw [ee.out,g12];rfl
  have uS:((gn:Int)==12)=true:=by simp at g12 ⊢;omega
  have AE:=AX.out
  obtain ⟨_,o1,o2⟩:=AE.g.var.box
  dsimp only [ae] at o1
  obtain ⟨_,r1,r2⟩:=AE.r
  go_wp2
  exact AE.ret HN.out (fun h=>absurd h (by decide)) rfl (fun Q D=>by simp [results,Tryz.results85,go_sem,D])
 have HN:Hid (lQ s t=0):=by show _=_;rw [ee.out,g12];rfl
 have uS:((gn:Int)==12)=false:=by simp at g12 ⊢;omega
 go_upto_region 7 with fail
 have f63:s.ah.length+1 <= 13:=by rw [HG.out];omega
 go_upto_region 8 with (at_builtin;(refine nc rfl _ _ 26 rfl lo 87 (.agg (dM Gh.zero)) 4 32 dM Tryz.underlying26 (by kernel_rfl) rfl (by decide) jS qD _ s.ah rfl (AX.out.g.var.own.g.keeps ((aa.refl _).alloc _)) (by have:=AX.out.g.var.gI;have:=AX.out.g.var.box.lt;simp;omega) (ng t) _ 1 (ai.new _ _ _) rfl (by unfold maxLen;omega) (by omega) ?_;intro v6 w6 o6 g6 f6;obtain ⟨a6,c6,e6⟩:=o6.form jS;obtain ⟨m6,jV⟩:∃ m,Hid ((s.ah++[ng t]).length=m):=⟨_,rfl⟩;rw [jV.out] at e6;subst e6;have AG:=AX.out.ah ((aa.refl wx).alloc _) (x:=⟨a6,m6,c6⟩) o6 g6 (fun q hq=>(f6 q hq).imp id (fun e=>Nat.le_of_eq e.symm));obtain ⟨_,p1,p2⟩:=(AX.out.g.var.box.keeps ((aa.refl wx).alloc _)).grown g6 (fun q e e2=>AX.out.g.var.far 2 (by rw [<- e2];exact e));dsimp only [ae] at p1))
 have qJ:Hid (aR w lo ⟨⟨some ⟨tb,0,none⟩,tn,ak⟩,⟨la,ln,aj⟩,⟨ga,gn,ao⟩,⟨fa,fn,aq⟩,⟨ra,rn,au⟩⟩ vs (w6.setCell ⟨w.heap.size,4,none⟩ (.slice a6 m6 c6)) w.heap.size (w.heap.size+1) ⟨⟨some ⟨tb,0,none⟩,tn,ak⟩,⟨la,ln,aj⟩,⟨a6,m6,c6⟩,⟨fa,fn,aq⟩,⟨ra,rn,au⟩⟩ vs { (s:Sy) with ah:=s.ah++[ng t] }):=AG
 clear AG p1 p2 o6 g6 f6 hbx htx
 generalize w6.setCell ⟨w.heap.size,4,none⟩ (.slice a6 m6 c6)=X at *
 have hbX:∀ w',aa X w'->∀ j,w'.cell? ⟨w.heap.size,j,none⟩=(ae ({ (s:Sy) with ah:=s.ah++[ng t] }:Sy) ⟨⟨some ⟨tb,0,none⟩,tn,ak⟩,⟨la,ln,aj⟩,⟨a6,m6,c6⟩,⟨fa,fn,aq⟩,⟨ra,rn,au⟩⟩)[j]?:=fun w' kk=>(qJ.out.g.var.box.keeps kk).cells
 dsimp only [ae] at hbX
 have TR:Hid (∀ (m:Nat) (x:ag),s.tasks[m]?=some x->∀ w',aa X w'->∀ j,j < 14->w'.cell? ⟨tb,m*14+j,none⟩=(tc x)[j]?):=fun m x hm w' kk j hj=>(kk.cells tb _ (qJ.out.g.var.own.aG (i:=0) (b:=tb) rfl).2).trans ((qJ.out.g.var.own.aI (rb:=tb) rfl hm).1 j hj)
 go_wp2_with fail
 have kz:aa X (X.alloc (.cells #[] 43)):=(aa.refl _).alloc _
 have dQ:dH (X.alloc (.cells #[] 43)) X.heap.size (.slice (some ⟨X.heap.size,0,none⟩) 0 0) []:=Own.new 43 14 tc X (Nat.le_refl _)
 generalize X.alloc (.cells #[] 43)=W at *
 go_loopw [7,8] (fun v i wr=>∃ (m:Nat) (xs:List ag),m <= tn /\ i = .int .i64 m /\ xs.length <= m /\ Hid (xs=(s.tasks.take m).eraseIdx k) /\ Hid (dH wr X.heap.size v xs) /\ aa X wr) (fun _ i _=>tn - (intOf i).toNat)
 case atStart=>exact ⟨0,[],Nat.zero_le _,rfl,Nat.le_refl _,by show _=_;simp,dQ,kz⟩
 case round =>
  obtain ⟨m,xs,hm,rfl,hxl,HX,HW,hK⟩:=hrel
  clear dQ kz
  by_cases hlt:m < tn
  ·have hlt':(m:Int) < (tn:Int):=by omega
   obtain ⟨x,hx⟩:=bW (xs:=s.tasks) (k:=m) (by rw [HL.out];exact hlt)
   have r1:∀ w',aa X w'->∀ j,j < 14->w'.cell? ⟨tb,m*14+j,none⟩=(tc x)[j]?:=TR.out m x hx
   have r0:∀ w',aa X w'->w'.cell? ⟨tb,m*14,none⟩=some (.int .i64 x.no):=fun w' kk=>r1 w' kk 0 (by omega)
   have HE:Hid ((s.tasks.take (m+1)).eraseIdx k=if m=k then xs else xs++[x]):=by show _=_;rw [yZ hx,<- HX.out]
   clear hx HX
   by_cases hmk:m=k
   ·have hne:((m:Int) != (k:Int))=false:=by simp [hmk]
    have kT:Hid (xs=(s.tasks.take (m+1)).eraseIdx k):=by show _=_;rw [HE.out,if_pos hmk]
    clear hmk HE
    go_wp2
    exact ⟨⟨m+1,xs,by omega,by go_num,by omega,kT,HW,hK⟩,by simp only [intOf];omega⟩
   ·have hne:((m:Int) != (k:Int))=true:=by simp;omega
    have kT:Hid (xs++[x]=(s.tasks.take (m+1)).eraseIdx k):=by show _=_;rw [HE.out,if_neg hmk]
    clear hmk HE
    go_wp2_with (at_builtin;(refine iE rfl _ _ 24 rfl X 43 (.agg (tc ag.zero)) 14 112 tc Tryz.underlying24 (by kernel_rfl) rfl (by decide) dC ja _ xs rfl wr HW.out hK ((aa.refl _).alloc _) x _ 1 (ai.new _ _ _) rfl ?c1 ?c2 ?_))
    case c1=>unfold maxLen;omega
    case c2=>omega
    intro v' w5 cP k5 _
    have uQ:Hid (dH w5 X.heap.size v' (xs++[x])):=cP
    clear cP HW
    go_wp2
    exact ⟨⟨m+1,xs++[x],by omega,by go_num,by simp;omega,kT,uQ,k5⟩,by simp only [intOf];omega⟩
  ·have hlt':decide ((m:Int) < (tn:Int))=false:=by simp;omega
   have kT:Hid (xs=s.tasks.eraseIdx k):=by
    have h1:=HX.out
    rw [List.take_of_length_le (by have:=HL.out;omega)] at h1
    exact h1
   clear HX
   obtain ⟨a9,c9,e9⟩:=HW.out.form dC
   obtain ⟨n9,uR⟩:∃ n,Hid (xs.length=n):=⟨_,rfl⟩
   rw [uR.out] at e9
   subst e9
   have AN:Hid (aR w lo ⟨⟨some ⟨tb,0,none⟩,tn,ak⟩,⟨la,ln,aj⟩,⟨ga,gn,ao⟩,⟨fa,fn,aq⟩,⟨ra,rn,au⟩⟩ vs (wr.setCell ⟨w.heap.size,2,none⟩ (.slice a9 n9 c9)) w.heap.size (w.heap.size+1) ⟨⟨a9,n9,c9⟩,⟨la,ln,aj⟩,⟨a6,m6,c6⟩,⟨fa,fn,aq⟩,⟨ra,rn,au⟩⟩ vs { ({ (s:Sy) with ah:=s.ah++[ng t] }:Sy) with tasks:=xs }):=qJ.out.tasks hK (x:=⟨a9,n9,c9⟩) HW.out
   have HC:Hid ({ ({ (s:Sy) with ah:=s.ah++[ng t] }:Sy) with tasks:=xs }=nf s k t):=by show _=_;rw [mq.out,kT.out];rfl
   obtain ⟨_,p1,p2⟩:=(qJ.out.keeps hK).g.var.box
   dsimp only [ae] at p1
   have hsz:w.heap.size+1≠w.heap.size:=by omega
   have AE:=AN.out
   obtain ⟨_,o1,o2⟩:=AE.g.var.box
   dsimp only [ae] at o1
   obtain ⟨_,r1,r2⟩:=AE.r
   go_wp2
   exact AE.ret HN.out (fun _=>HC.out) rfl (fun Q D=>by simp [results,Tryz.results85,go_sem,D])
set_option linter.unusedSimpArgs false in
set_option maxHeartbeats 8000000 in
theorem FB {w:World} {lo:Nat} {v:Sv} {vs:List Lv} {s:Sy} (h:ay w lo v vs s) (hl:lo <= w.heap.size) (R:cV s) (cn cp ca cb:Int) (hth:bF s.tasks cn=true) :
  Calls Tryz.prog 39 #[.agg (ae s v),ck ⟨4,cn,cp,ca,cb⟩] w (fL w lo v vs (df s ⟨4,cn,cp,ca,cb⟩) (ei s ⟨4,cn,cp,ca,cb⟩)):=by
 obtain ⟨⟨ta,tn,ak⟩,⟨la,ln,aj⟩,⟨ga,gn,ao⟩,⟨fa,fn,aq⟩,⟨ra,rn,au⟩⟩:=v
 obtain ⟨k,ek,ht,fX⟩:=mW hth
 have eY:Hid (dA s.tasks cn=(k:Int)):=ek
 obtain ⟨t,ht⟩:=ht
 have fM:de s.tasks cn=t:=fX t ht
 have hM:df s ⟨4,cn,cp,ca,cb⟩=mi s ⟨4,cn,cp,ca,cb⟩ t:=by rw [mh (by rfl) (by rfl) hth,fM]
 have hZ:ei s ⟨4,cn,cp,ca,cb⟩=lI s ⟨4,cn,cp,ca,cb⟩ k t:=by rw [nN (by rfl) (by rfl),ek,fM,Int.toNat_natCast]
 have hk:k < s.tasks.length:=da ht
 obtain ⟨tb,htb⟩:=h.bm hk
 dsimp only at htb
 subst htb
 have HK:Hid (s.tasks[k]?=some t):=ht
 have Hk:Hid (k < s.tasks.length):=hk
 have hkn:(k:Int) < (tn:Int):=by have:=(h.t.row dC).1;dsimp only at this;omega
 have T0:∀ w',aa w w'->∀ i,i < 14->w'.cell? ⟨tb,k*14+i,none⟩=(tc t)[i]?:=fun w' kk i hi=>(kk.cells tb _ (h.aG (i:=0) (b:=tb) rfl).2).trans ((h.aI (rb:=tb) rfl ht).1 i hi)
 clear ek fX fM hth
 obtain ⟨dG,dO,kZ⟩:=eU h hl ⟨4,cn,cp,ca,cb⟩
 have C0:Hid (ai _ (w.heap.size+1) (cc ⟨4,cn,cp,ca,cb⟩)):=dO
 have A0:Hid (aR w lo _ vs _ w.heap.size (w.heap.size+2) _ vs s):=dG
 have HS:Hid (aA _ _ s):=(h.on (by have:=R.small;omega)).keeps kZ
 clear dG dO h
 have TC:∀ w',aa _ w'->∀ i,i < 14->w'.cell? ⟨tb,k*14+i,none⟩=(tc t)[i]?:=fun w' kk=>T0 w' (kZ.trans kk)
 have jW:∀ w',aa _ w'->w'.cell? ⟨tb,k*14,none⟩=some (.int .i64 t.no):=fun w' kk=>T0 w' (kZ.trans kk) 0 (by omega)
 clear T0
 go_enter Tryz.func39,Tryz.ntmps39
 go_wp2_with fail
 change Calls _ _ _ (du w ⟨⟨some ⟨tb,0,none⟩,tn,ak⟩,⟨la,ln,aj⟩,⟨ga,gn,ao⟩,⟨fa,fn,aq⟩,⟨ra,rn,au⟩⟩ s ⟨4,cn,cp,ca,cb⟩) _
 generalize du w ⟨⟨some ⟨tb,0,none⟩,tn,ak⟩,⟨la,ln,aj⟩,⟨ga,gn,ao⟩,⟨fa,fn,aq⟩,⟨ra,rn,au⟩⟩ s ⟨4,cn,cp,ca,cb⟩=Z at *
 have hb0:∀ w',aa Z w'->∀ q,w'.cell? ⟨w.heap.size,q,none⟩=(ae s ⟨⟨some ⟨tb,0,none⟩,tn,ak⟩,⟨la,ln,aj⟩,⟨ga,gn,ao⟩,⟨fa,fn,aq⟩,⟨ra,rn,au⟩⟩)[q]?:=fun w' k=>(A0.out.g.var.box.keeps k).cells
 dsimp only [ae] at hb0
 have hc0:∀ w',aa Z w'->∀ q,w'.cell? ⟨w.heap.size+1,q,none⟩=(cc ⟨4,cn,cp,ca,cb⟩)[q]?:=fun w' k=>(C0.out.keeps k).cells
 refine (HS.out.gM.aZ cn eY.out (aa.refl _)).mono ?_
 rintro e w1 ⟨rfl,k1⟩
 go_upto_region 14 with fail
 have KY:aa Z (w1.alloc (.cells (tc t) 43)):=k1.alloc _
 have TB:Hid (ai (w1.alloc (.cells (tc t) 43)) w1.heap.size (tc t)):=ai.new _ _ _
 have AY:Hid (aR w lo _ vs _ w.heap.size (w.heap.size+2) _ vs s):=A0.out.keeps KY
 have SY:Hid (aA _ _ s):=HS.out.keeps KY
 change Code.wp _ _ _ _ (w1.alloc (.cells (tc t) 43))
 generalize w1.alloc (.cells (tc t) 43)=Y at *
 generalize w1.heap.size=iq at *
 have pD:∀ w',aa Y w'->∀ q,w'.cell? ⟨w.heap.size,q,none⟩=_:=fun w' kk=>hb0 w' (KY.trans kk)
 have pE:∀ w',aa Y w'->∀ q,w'.cell? ⟨w.heap.size+1,q,none⟩=_:=fun w' kk=>hc0 w' (KY.trans kk)
 have pF:∀ w',aa Y w'->∀ q,w'.cell? ⟨iq,q,none⟩=(tc t)[q]?:=fun w' kk=>(TB.out.keeps kk).cells
 clear hb0 hc0 TC jW A0 HS k1
 obtain ⟨za,Hz⟩:∃ z,Hid (d8 s.af cn=z):=⟨_,rfl⟩
 have e1:(!decide (za < 0))=decide (0 <= za):=by rw [Bool.eq_iff_iff];simp
 have ee:Hid (df s ⟨4,cn,cp,ca,cb⟩=if t.st==2||decide (0 <= za) then 5 else 0):=by
  show _=_
  rw [hM,<- e1,<- Hz.out]
  rfl
 have HC:Hid ({ (s:Sy) with tasks:=s.tasks.set k { t with st:=2 } }=ei s ⟨4,cn,cp,ca,cb⟩):=by show _=_;rw [hZ];rfl
 clear hM hZ e1
 have WA:Hid (∀ w',aa Y w'->Calls Tryz.prog 84 #[.slice la ln aj,.int .i64 cn] w' fun e w''=>e = .returned (.int .i64 za) /\ aa w' w''):=fun w' kk=>SY.out.gL.fv cn Hz.out kk
 cases d1:(t.st==2)
 rotate_left
 ·have HN:Hid (df s ⟨4,cn,cp,ca,cb⟩=5):=by show _=_;rw [ee.out,d1];rfl
  have AE:=AY.out
  obtain ⟨_,o1,o2⟩:=AE.g.var.box
  dsimp only [ae] at o1
  obtain ⟨_,r1,r2⟩:=AE.r
  go_wp2
  exact AE.ret HN.out (fun h=>absurd h (by decide)) rfl (fun Q D=>by simp [results,Tryz.results39,go_sem,D])
 go_upto_if 66 with (go_at_call 84;refine (WA.out _ (aa.refl _)).mono ?_;rintro e w6 ⟨rfl,k6⟩)
 cases d2:decide (0 <= za)
 rotate_left
 ·have HN:Hid (df s ⟨4,cn,cp,ca,cb⟩=5):=by show _=_;rw [ee.out,d1,d2];rfl
  have AE:=AY.out.keeps k6
  obtain ⟨_,o1,o2⟩:=AE.g.var.box
  dsimp only [ae] at o1
  obtain ⟨_,r1,r2⟩:=AE.r
  go_wp2
  exact AE.ret HN.out (fun h=>absurd h (by decide)) rfl (fun Q D=>by simp [results,Tryz.results39,go_sem,D])
 have HN:Hid (df s ⟨4,cn,cp,ca,cb⟩=0):=by show _=_;rw [ee.out,d1,d2];rfl
 have AS:=AY.out.keeps k6
 obtain ⟨z1,z2⟩:=AS.g.var.own.aI (rb:=tb) rfl (k:=k) HK.out
 have y9:w6.cell? ⟨tb,k*14+3,none⟩=(tc t)[3]?:=z1 3 (by omega)
 have hor:tb≠w.heap.size:=AS.sI rfl
 have hrr:tb≠w.heap.size+2:=AS.sJ rfl
 obtain ⟨_,p1,p2⟩:=AS.g.var.box
 dsimp only [ae] at p1
 obtain ⟨_,q1,q2⟩:=AS.r
 have AN:Hid (aR w lo _ vs (w6.setCell ⟨tb,k*14+3,none⟩ (.int .i64 2)) w.heap.size (w.heap.size+2) _ vs { (s:Sy) with tasks:=s.tasks.set k { t with st:=2 } }):=AS.gB (tb:=tb) rfl HK.out (y:={ t with st:=2 }) (j:=3) (by omega) rfl
 clear z1
 have AE:=AN.out
 obtain ⟨_,o1,o2⟩:=AE.g.var.box
 dsimp only [ae] at o1
 obtain ⟨_,r1,r2⟩:=AE.r
 go_wp2
 exact AE.ret HN.out (fun _=>HC.out) rfl (fun Q D=>by simp [results,Tryz.results39,go_sem,D])
set_option linter.unusedSimpArgs false in
set_option maxHeartbeats 8000000 in
theorem FC {w:World} {lo:Nat} {v:Sv} {vs:List Lv} {s:Sy} (h:ay w lo v vs s) (hl:lo <= w.heap.size) (R:cV s) (cn cp ca cb:Int) (hth:bF s.tasks cn=true) :
  Calls Tryz.prog 39 #[.agg (ae s v),ck ⟨5,cn,cp,ca,cb⟩] w (fL w lo v vs (df s ⟨5,cn,cp,ca,cb⟩) (ei s ⟨5,cn,cp,ca,cb⟩)):=by
 obtain ⟨⟨ta,tn,ak⟩,⟨la,ln,aj⟩,⟨ga,gn,ao⟩,⟨fa,fn,aq⟩,⟨ra,rn,au⟩⟩:=v
 obtain ⟨k,ek,ht,fX⟩:=mW hth
 have eY:Hid (dA s.tasks cn=(k:Int)):=ek
 obtain ⟨t,ht⟩:=ht
 have fM:de s.tasks cn=t:=fX t ht
 have hM:df s ⟨5,cn,cp,ca,cb⟩=mi s ⟨5,cn,cp,ca,cb⟩ t:=by rw [mh (by rfl) (by rfl) hth,fM]
 have hZ:ei s ⟨5,cn,cp,ca,cb⟩=lI s ⟨5,cn,cp,ca,cb⟩ k t:=by rw [nN (by rfl) (by rfl),ek,fM,Int.toNat_natCast]
 have hk:k < s.tasks.length:=da ht
 obtain ⟨tb,htb⟩:=h.bm hk
 dsimp only at htb
 subst htb
 have HK:Hid (s.tasks[k]?=some t):=ht
 have Hk:Hid (k < s.tasks.length):=hk
 have hkn:(k:Int) < (tn:Int):=by have:=(h.t.row dC).1;dsimp only at this;omega
 have T0:∀ w',aa w w'->∀ i,i < 14->w'.cell? ⟨tb,k*14+i,none⟩=(tc t)[i]?:=fun w' kk i hi=>(kk.cells tb _ (h.aG (i:=0) (b:=tb) rfl).2).trans ((h.aI (rb:=tb) rfl ht).1 i hi)
 clear ek fX fM hth
 obtain ⟨dG,dO,kZ⟩:=eU h hl ⟨5,cn,cp,ca,cb⟩
 have C0:Hid (ai _ (w.heap.size+1) (cc ⟨5,cn,cp,ca,cb⟩)):=dO
 have A0:Hid (aR w lo _ vs _ w.heap.size (w.heap.size+2) _ vs s):=dG
 have HS:Hid (aA _ _ s):=(h.on (by have:=R.small;omega)).keeps kZ
 clear dG dO h
 have TC:∀ w',aa _ w'->∀ i,i < 14->w'.cell? ⟨tb,k*14+i,none⟩=(tc t)[i]?:=fun w' kk=>T0 w' (kZ.trans kk)
 have jW:∀ w',aa _ w'->w'.cell? ⟨tb,k*14,none⟩=some (.int .i64 t.no):=fun w' kk=>T0 w' (kZ.trans kk) 0 (by omega)
 clear T0
 go_enter Tryz.func39,Tryz.ntmps39
 go_wp2_with fail
 change Calls _ _ _ (du w ⟨⟨some ⟨tb,0,none⟩,tn,ak⟩,⟨la,ln,aj⟩,⟨ga,gn,ao⟩,⟨fa,fn,aq⟩,⟨ra,rn,au⟩⟩ s ⟨5,cn,cp,ca,cb⟩) _
 generalize du w ⟨⟨some ⟨tb,0,none⟩,tn,ak⟩,⟨la,ln,aj⟩,⟨ga,gn,ao⟩,⟨fa,fn,aq⟩,⟨ra,rn,au⟩⟩ s ⟨5,cn,cp,ca,cb⟩=Z at *
 have hb0:∀ w',aa Z w'->∀ q,w'.cell? ⟨w.heap.size,q,none⟩=(ae s ⟨⟨some ⟨tb,0,none⟩,tn,ak⟩,⟨la,ln,aj⟩,⟨ga,gn,ao⟩,⟨fa,fn,aq⟩,⟨ra,rn,au⟩⟩)[q]?:=fun w' k=>(A0.out.g.var.box.keeps k).cells
 dsimp only [ae] at hb0
 have hc0:∀ w',aa Z w'->∀ q,w'.cell? ⟨w.heap.size+1,q,none⟩=(cc ⟨5,cn,cp,ca,cb⟩)[q]?:=fun w' k=>(C0.out.keeps k).cells
 refine (HS.out.gM.aZ cn eY.out (aa.refl _)).mono ?_
 rintro e w1 ⟨rfl,k1⟩
 go_upto_region 14 with fail
 have KY:aa Z (w1.alloc (.cells (tc t) 43)):=k1.alloc _
 have TB:Hid (ai (w1.alloc (.cells (tc t) 43)) w1.heap.size (tc t)):=ai.new _ _ _
 have AY:Hid (aR w lo _ vs _ w.heap.size (w.heap.size+2) _ vs s):=A0.out.keeps KY
 have SY:Hid (aA _ _ s):=HS.out.keeps KY
 change Code.wp _ _ _ _ (w1.alloc (.cells (tc t) 43))
 generalize w1.alloc (.cells (tc t) 43)=Y at *
 generalize w1.heap.size=iq at *
 have pD:∀ w',aa Y w'->∀ q,w'.cell? ⟨w.heap.size,q,none⟩=_:=fun w' kk=>hb0 w' (KY.trans kk)
 have pE:∀ w',aa Y w'->∀ q,w'.cell? ⟨w.heap.size+1,q,none⟩=_:=fun w' kk=>hc0 w' (KY.trans kk)
 have pF:∀ w',aa Y w'->∀ q,w'.cell? ⟨iq,q,none⟩=(tc t)[q]?:=fun w' kk=>(TB.out.keeps kk).cells
 clear hb0 hc0 TC jW A0 HS k1
 have ee:Hid (df s ⟨5,cn,cp,ca,cb⟩=if t.st != 2 then 5 else 0):=by show _=_;rw [hM];rfl
 have HC:Hid ({ (s:Sy) with tasks:=s.tasks.set k { t with st:=1 } }=ei s ⟨5,cn,cp,ca,cb⟩):=by show _=_;rw [hZ];rfl
 clear hM hZ
 cases d1:(t.st != 2)
 rotate_left
 ·have HN:Hid (df s ⟨5,cn,cp,ca,cb⟩=5):=by show _=_;rw [ee.out,d1];rfl
  have AE:=AY.out
  obtain ⟨_,o1,o2⟩:=AE.g.var.box
  dsimp only [ae] at o1
  obtain ⟨_,r1,r2⟩:=AE.r
  go_wp2
  exact AE.ret HN.out (fun h=>absurd h (by decide)) rfl (fun Q D=>by simp [results,Tryz.results39,go_sem,D])
 have HN:Hid (df s ⟨5,cn,cp,ca,cb⟩=0):=by show _=_;rw [ee.out,d1];rfl
 have AS:=AY.out
 obtain ⟨z1,z2⟩:=AS.g.var.own.aI (rb:=tb) rfl (k:=k) HK.out
 have y9:Y.cell? ⟨tb,k*14+3,none⟩=(tc t)[3]?:=z1 3 (by omega)
 have hor:tb≠w.heap.size:=AS.sI rfl
 have hrr:tb≠w.heap.size+2:=AS.sJ rfl
 obtain ⟨_,p1,p2⟩:=AS.g.var.box
 dsimp only [ae] at p1
 obtain ⟨_,q1,q2⟩:=AS.r
 have AN:Hid (aR w lo _ vs (Y.setCell ⟨tb,k*14+3,none⟩ (.int .i64 1)) w.heap.size (w.heap.size+2) _ vs { (s:Sy) with tasks:=s.tasks.set k { t with st:=1 } }):=AS.gB (tb:=tb) rfl HK.out (y:={ t with st:=1 }) (j:=3) (by omega) rfl
 clear z1
 have AE:=AN.out
 obtain ⟨_,o1,o2⟩:=AE.g.var.box
 dsimp only [ae] at o1
 obtain ⟨_,r1,r2⟩:=AE.r
 go_wp2
 exact AE.ret HN.out (fun _=>HC.out) rfl (fun Q D=>by simp [results,Tryz.results39,go_sem,D])
set_option linter.unusedSimpArgs false in
set_option maxHeartbeats 8000000 in
theorem FD {w:World} {lo:Nat} {v:Sv} {vs:List Lv} {s:Sy} (h:ay w lo v vs s) (hl:lo <= w.heap.size) (R:cV s) (cn cp ca cb:Int) (hth:bF s.tasks cn=true) :
  Calls Tryz.prog 39 #[.agg (ae s v),ck ⟨9,cn,cp,ca,cb⟩] w (fL w lo v vs (df s ⟨9,cn,cp,ca,cb⟩) (ei s ⟨9,cn,cp,ca,cb⟩)):=by
 obtain ⟨⟨ta,tn,ak⟩,⟨la,ln,aj⟩,⟨ga,gn,ao⟩,⟨fa,fn,aq⟩,⟨ra,rn,au⟩⟩:=v
 obtain ⟨k,ek,ht,fX⟩:=mW hth
 have eY:Hid (dA s.tasks cn=(k:Int)):=ek
 obtain ⟨t,ht⟩:=ht
 have fM:de s.tasks cn=t:=fX t ht
 have hM:df s ⟨9,cn,cp,ca,cb⟩=mi s ⟨9,cn,cp,ca,cb⟩ t:=by rw [mh (by rfl) (by rfl) hth,fM]
 have hZ:ei s ⟨9,cn,cp,ca,cb⟩=lI s ⟨9,cn,cp,ca,cb⟩ k t:=by rw [nN (by rfl) (by rfl),ek,fM,Int.toNat_natCast]
 have hk:k < s.tasks.length:=da ht
 obtain ⟨tb,htb⟩:=h.bm hk
 dsimp only at htb
 subst htb
 have HK:Hid (s.tasks[k]?=some t):=ht
 have Hk:Hid (k < s.tasks.length):=hk
 have hkn:(k:Int) < (tn:Int):=by have:=(h.t.row dC).1;dsimp only at this;omega
 have T0:∀ w',aa w w'->∀ i,i < 14->w'.cell? ⟨tb,k*14+i,none⟩=(tc t)[i]?:=fun w' kk i hi=>(kk.cells tb _ (h.aG (i:=0) (b:=tb) rfl).2).trans ((h.aI (rb:=tb) rfl ht).1 i hi)
 clear ek fX fM hth
 obtain ⟨dG,dO,kZ⟩:=eU h hl ⟨9,cn,cp,ca,cb⟩
 have C0:Hid (ai _ (w.heap.size+1) (cc ⟨9,cn,cp,ca,cb⟩)):=dO
 have A0:Hid (aR w lo _ vs _ w.heap.size (w.heap.size+2) _ vs s):=dG
 have HS:Hid (aA _ _ s):=(h.on (by have:=R.small;omega)).keeps kZ
 clear dG dO h
 have TC:∀ w',aa _ w'->∀ i,i < 14->w'.cell? ⟨tb,k*14+i,none⟩=(tc t)[i]?:=fun w' kk=>T0 w' (kZ.trans kk)
 have jW:∀ w',aa _ w'->w'.cell? ⟨tb,k*14,none⟩=some (.int .i64 t.no):=fun w' kk=>T0 w' (kZ.trans kk) 0 (by omega)
 clear T0
 go_enter Tryz.func39,Tryz.ntmps39
 go_wp2_with fail
 change Calls _ _ _ (du w ⟨⟨some ⟨tb,0,none⟩,tn,ak⟩,⟨la,ln,aj⟩,⟨ga,gn,ao⟩,⟨fa,fn,aq⟩,⟨ra,rn,au⟩⟩ s ⟨9,cn,cp,ca,cb⟩) _
 generalize du w ⟨⟨some ⟨tb,0,none⟩,tn,ak⟩,⟨la,ln,aj⟩,⟨ga,gn,ao⟩,⟨fa,fn,aq⟩,⟨ra,rn,au⟩⟩ s ⟨9,cn,cp,ca,cb⟩=Z at *
 have hb0:∀ w',aa Z w'->∀ q,w'.cell? ⟨w.heap.size,q,none⟩=(ae s ⟨⟨some ⟨tb,0,none⟩,tn,ak⟩,⟨la,ln,aj⟩,⟨ga,gn,ao⟩,⟨fa,fn,aq⟩,⟨ra,rn,au⟩⟩)[q]?:=fun w' k=>(A0.out.g.var.box.keeps k).cells
 dsimp only [ae] at hb0
 have hc0:∀ w',aa Z w'->∀ q,w'.cell? ⟨w.heap.size+1,q,none⟩=(cc ⟨9,cn,cp,ca,cb⟩)[q]?:=fun w' k=>(C0.out.keeps k).cells
 refine (HS.out.gM.aZ cn eY.out (aa.refl _)).mono ?_
 rintro e w1 ⟨rfl,k1⟩
 go_upto_region 14 with fail
 have KY:aa Z (w1.alloc (.cells (tc t) 43)):=k1.alloc _
 have TB:Hid (ai (w1.alloc (.cells (tc t) 43)) w1.heap.size (tc t)):=ai.new _ _ _
 have AY:Hid (aR w lo _ vs _ w.heap.size (w.heap.size+2) _ vs s):=A0.out.keeps KY
 have SY:Hid (aA _ _ s):=HS.out.keeps KY
 change Code.wp _ _ _ _ (w1.alloc (.cells (tc t) 43))
 generalize w1.alloc (.cells (tc t) 43)=Y at *
 generalize w1.heap.size=iq at *
 have pD:∀ w',aa Y w'->∀ q,w'.cell? ⟨w.heap.size,q,none⟩=_:=fun w' kk=>hb0 w' (KY.trans kk)
 have pE:∀ w',aa Y w'->∀ q,w'.cell? ⟨w.heap.size+1,q,none⟩=_:=fun w' kk=>hc0 w' (KY.trans kk)
 have pF:∀ w',aa Y w'->∀ q,w'.cell? ⟨iq,q,none⟩=(tc t)[q]?:=fun w' kk=>(TB.out.keeps kk).cells
 clear hb0 hc0 TC jW A0 HS k1
 have ee:Hid (df s ⟨9,cn,cp,ca,cb⟩=if t.cls != 3 then 5 else if !aF ca (-4) 4 then 1 else 0):=by show _=_;rw [hM];rfl
 have HC:Hid ({ (s:Sy) with tasks:=s.tasks.set k { t with nice:=ca } }=ei s ⟨9,cn,cp,ca,cb⟩):=by show _=_;rw [hZ];rfl
 clear hM hZ
 cases d1:(t.cls != 3)
 rotate_left
 ·have HN:Hid (df s ⟨9,cn,cp,ca,cb⟩=5):=by show _=_;rw [ee.out,d1];rfl
  have AE:=AY.out
  obtain ⟨_,o1,o2⟩:=AE.g.var.box
  dsimp only [ae] at o1
  obtain ⟨_,r1,r2⟩:=AE.r
  go_wp2
  exact AE.ret HN.out (fun h=>absurd h (by decide)) rfl (fun Q D=>by simp [results,Tryz.results39,go_sem,D])
 go_upto_if 116 with (go_at_call 88;refine (jd _ _).mono ?_;rintro e w' ⟨rfl,hw'⟩;have hw2:=hw'.symm;subst hw2)
 cases d2:aF ca (-4) 4
 ·have HN:Hid (df s ⟨9,cn,cp,ca,cb⟩=1):=by show _=_;rw [ee.out,d1,d2];rfl
  have AE:=AY.out
  obtain ⟨_,o1,o2⟩:=AE.g.var.box
  dsimp only [ae] at o1
  obtain ⟨_,r1,r2⟩:=AE.r
  go_wp2
  exact AE.ret HN.out (fun h=>absurd h (by decide)) rfl (fun Q D=>by simp [results,Tryz.results39,go_sem,D])
 have HN:Hid (df s ⟨9,cn,cp,ca,cb⟩=0):=by show _=_;rw [ee.out,d1,d2];rfl
 have AS:=AY.out
 obtain ⟨z1,z2⟩:=AS.g.var.own.aI (rb:=tb) rfl (k:=k) HK.out
 have y9:Y.cell? ⟨tb,k*14+12,none⟩=(tc t)[12]?:=z1 12 (by omega)
 have hor:tb≠w.heap.size:=AS.sI rfl
 have hrr:tb≠w.heap.size+2:=AS.sJ rfl
 obtain ⟨_,p1,p2⟩:=AS.g.var.box
 dsimp only [ae] at p1
 obtain ⟨_,q1,q2⟩:=AS.r
 have AN:Hid (aR w lo _ vs (Y.setCell ⟨tb,k*14+12,none⟩ (.int .i64 ca)) w.heap.size (w.heap.size+2) _ vs { (s:Sy) with tasks:=s.tasks.set k { t with nice:=ca } }):=AS.gB (tb:=tb) rfl HK.out (y:={ t with nice:=ca }) (j:=12) (by omega) rfl
 clear z1
 have AE:=AN.out
 obtain ⟨_,o1,o2⟩:=AE.g.var.box
 dsimp only [ae] at o1
 obtain ⟨_,r1,r2⟩:=AE.r
 go_wp2
 exact AE.ret HN.out (fun _=>HC.out) rfl (fun Q D=>by simp [results,Tryz.results39,go_sem,D])
set_option linter.unusedSimpArgs false in
set_option maxHeartbeats 8000000 in
theorem FE {w:World} {lo:Nat} {v:Sv} {vs:List Lv} {s:Sy} (h:ay w lo v vs s) (hl:lo <= w.heap.size) (R:cV s) (cn cp ca cb:Int) (hth:bF s.tasks cn=true) :
  Calls Tryz.prog 39 #[.agg (ae s v),ck ⟨6,cn,cp,ca,cb⟩] w (fL w lo v vs (df s ⟨6,cn,cp,ca,cb⟩) (ei s ⟨6,cn,cp,ca,cb⟩)):=by
 obtain ⟨⟨ta,tn,ak⟩,⟨la,ln,aj⟩,⟨ga,gn,ao⟩,⟨fa,fn,aq⟩,⟨ra,rn,au⟩⟩:=v
 obtain ⟨k,ek,ht,fX⟩:=mW hth
 have eY:Hid (dA s.tasks cn=(k:Int)):=ek
 obtain ⟨t,ht⟩:=ht
 have fM:de s.tasks cn=t:=fX t ht
 have hM:df s ⟨6,cn,cp,ca,cb⟩=mi s ⟨6,cn,cp,ca,cb⟩ t:=by rw [mh (by rfl) (by rfl) hth,fM]
 have hZ:ei s ⟨6,cn,cp,ca,cb⟩=lI s ⟨6,cn,cp,ca,cb⟩ k t:=by rw [nN (by rfl) (by rfl),ek,fM,Int.toNat_natCast]
 have hk:k < s.tasks.length:=da ht
 obtain ⟨tb,htb⟩:=h.bm hk
 dsimp only at htb
 subst htb
 have HK:Hid (s.tasks[k]?=some t):=ht
 have Hk:Hid (k < s.tasks.length):=hk
 have hkn:(k:Int) < (tn:Int):=by have:=(h.t.row dC).1;dsimp only at this;omega
 have T0:∀ w',aa w w'->∀ i,i < 14->w'.cell? ⟨tb,k*14+i,none⟩=(tc t)[i]?:=fun w' kk i hi=>(kk.cells tb _ (h.aG (i:=0) (b:=tb) rfl).2).trans ((h.aI (rb:=tb) rfl ht).1 i hi)
 clear ek fX fM hth
 obtain ⟨dG,dO,kZ⟩:=eU h hl ⟨6,cn,cp,ca,cb⟩
 have C0:Hid (ai _ (w.heap.size+1) (cc ⟨6,cn,cp,ca,cb⟩)):=dO
 have A0:Hid (aR w lo _ vs _ w.heap.size (w.heap.size+2) _ vs s):=dG
 have HS:Hid (aA _ _ s):=(h.on (by have:=R.small;omega)).keeps kZ
 clear dG dO h
 have TC:∀ w',aa _ w'->∀ i,i < 14->w'.cell? ⟨tb,k*14+i,none⟩=(tc t)[i]?:=fun w' kk=>T0 w' (kZ.trans kk)
 have jW:∀ w',aa _ w'->w'.cell? ⟨tb,k*14,none⟩=some (.int .i64 t.no):=fun w' kk=>T0 w' (kZ.trans kk) 0 (by omega)
 clear T0
 go_enter Tryz.func39,Tryz.ntmps39
 go_wp2_with fail
 change Calls _ _ _ (du w ⟨⟨some ⟨tb,0,none⟩,tn,ak⟩,⟨la,ln,aj⟩,⟨ga,gn,ao⟩,⟨fa,fn,aq⟩,⟨ra,rn,au⟩⟩ s ⟨6,cn,cp,ca,cb⟩) _
 generalize du w ⟨⟨some ⟨tb,0,none⟩,tn,ak⟩,⟨la,ln,aj⟩,⟨ga,gn,ao⟩,⟨fa,fn,aq⟩,⟨ra,rn,au⟩⟩ s ⟨6,cn,cp,ca,cb⟩=Z at *
 have hb0:∀ w',aa Z w'->∀ q,w'.cell? ⟨w.heap.size,q,none⟩=(ae s ⟨⟨some ⟨tb,0,none⟩,tn,ak⟩,⟨la,ln,aj⟩,⟨ga,gn,ao⟩,⟨fa,fn,aq⟩,⟨ra,rn,au⟩⟩)[q]?:=fun w' k=>(A0.out.g.var.box.keeps k).cells
 dsimp only [ae] at hb0
 have hc0:∀ w',aa Z w'->∀ q,w'.cell? ⟨w.heap.size+1,q,none⟩=(cc ⟨6,cn,cp,ca,cb⟩)[q]?:=fun w' k=>(C0.out.keeps k).cells
 refine (HS.out.gM.aZ cn eY.out (aa.refl _)).mono ?_
 rintro e w1 ⟨rfl,k1⟩
 go_upto_region 14 with fail
 have KY:aa Z (w1.alloc (.cells (tc t) 43)):=k1.alloc _
 have TB:Hid (ai (w1.alloc (.cells (tc t) 43)) w1.heap.size (tc t)):=ai.new _ _ _
 have AY:Hid (aR w lo _ vs _ w.heap.size (w.heap.size+2) _ vs s):=A0.out.keeps KY
 have SY:Hid (aA _ _ s):=HS.out.keeps KY
 change Code.wp _ _ _ _ (w1.alloc (.cells (tc t) 43))
 generalize w1.alloc (.cells (tc t) 43)=Y at *
 generalize w1.heap.size=iq at *
 have pD:∀ w',aa Y w'->∀ q,w'.cell? ⟨w.heap.size,q,none⟩=_:=fun w' kk=>hb0 w' (KY.trans kk)
 have pE:∀ w',aa Y w'->∀ q,w'.cell? ⟨w.heap.size+1,q,none⟩=_:=fun w' kk=>hc0 w' (KY.trans kk)
 have pF:∀ w',aa Y w'->∀ q,w'.cell? ⟨iq,q,none⟩=(tc t)[q]?:=fun w' kk=>(TB.out.keeps kk).cells
 clear hb0 hc0 TC jW A0 HS k1
 have HN:Hid (df s ⟨6,cn,cp,ca,cb⟩=lQ s t):=by show _=_;rw [hM];rfl
 have HC:Hid (ei s ⟨6,cn,cp,ca,cb⟩=nf s k t):=by show _=_;rw [hZ];rfl
 clear hM hZ
 have AP:=AY.out
 go_wp2_with (go_at_call 85;refine (Fx AY.out.g.var.own (Nat.le_trans hl (Nat.le_trans kZ.size KY.size)) R  HK.out).mono ?_;rintro e w6 ⟨s6,v6,fh,rfl,hs6,g6⟩;obtain ⟨⟨bM,bN,cq⟩,⟨bG,bE,cr⟩,⟨bO,bP,ct⟩,⟨fa6,bQ,cw⟩,⟨bR,bS,cx⟩⟩:=v6;obtain ⟨P6,D6,G6⟩:=AP.pass g6;obtain ⟨_,r1,r2⟩:=P6)
 change bodyPost _ _ _ _ _ (putC w6 (w.heap.size+2) 0 (ae (s6:Sy) ⟨⟨bM,bN,cq⟩,⟨bG,bE,cr⟩,⟨bO,bP,ct⟩,⟨fa6,bQ,cw⟩,⟨bR,bS,cx⟩⟩).toList)
 generalize putC w6 (w.heap.size+2) 0 (ae (s6:Sy) ⟨⟨bM,bN,cq⟩,⟨bG,bE,cr⟩,⟨bO,bP,ct⟩,⟨fa6,bQ,cw⟩,⟨bR,bS,cx⟩⟩).toList=Q at D6 G6 ⊢
 exact bodyPost_ret (v := .tuple #[.agg (ae (s6:Sy) ⟨⟨bM,bN,cq⟩,⟨bG,bE,cr⟩,⟨bO,bP,ct⟩,⟨fa6,bQ,cw⟩,⟨bR,bS,cx⟩⟩),.int .i64 (lQ s t)]) (by simp [results,Tryz.results39,go_sem,D6.cells]) rfl (fL.of HN.out (fun e=>by rw [HC.out];exact hs6 e) G6)
set_option linter.unusedSimpArgs false in
set_option maxHeartbeats 8000000 in
theorem FF {w:World} {lo:Nat} {v:Sv} {vs:List Lv} {s:Sy} (h:ay w lo v vs s) (hl:lo <= w.heap.size) (R:cV s) (cn cp ca cb:Int) (hth:bF s.tasks cn=true) :
  Calls Tryz.prog 39 #[.agg (ae s v),ck ⟨7,cn,cp,ca,cb⟩] w (fL w lo v vs (df s ⟨7,cn,cp,ca,cb⟩) (ei s ⟨7,cn,cp,ca,cb⟩)):=by
 obtain ⟨⟨ta,tn,ak⟩,⟨la,ln,aj⟩,⟨ga,gn,ao⟩,⟨fa,fn,aq⟩,⟨ra,rn,au⟩⟩:=v
 obtain ⟨k,ek,ht,fX⟩:=mW hth
 have eY:Hid (dA s.tasks cn=(k:Int)):=ek
 obtain ⟨t,ht⟩:=ht
 have fM:de s.tasks cn=t:=fX t ht
 have hM:df s ⟨7,cn,cp,ca,cb⟩=mi s ⟨7,cn,cp,ca,cb⟩ t:=by rw [mh (by rfl) (by rfl) hth,fM]
 have hZ:ei s ⟨7,cn,cp,ca,cb⟩=lI s ⟨7,cn,cp,ca,cb⟩ k t:=by rw [nN (by rfl) (by rfl),ek,fM,Int.toNat_natCast]
 have hk:k < s.tasks.length:=da ht
 obtain ⟨tb,htb⟩:=h.bm hk
 dsimp only at htb
 subst htb
 have HK:Hid (s.tasks[k]?=some t):=ht
 have Hk:Hid (k < s.tasks.length):=hk
 have hkn:(k:Int) < (tn:Int):=by have:=(h.t.row dC).1;dsimp only at this;omega
 have T0:∀ w',aa w w'->∀ i,i < 14->w'.cell? ⟨tb,k*14+i,none⟩=(tc t)[i]?:=fun w' kk i hi=>(kk.cells tb _ (h.aG (i:=0) (b:=tb) rfl).2).trans ((h.aI (rb:=tb) rfl ht).1 i hi)
 clear ek fX fM hth
 obtain ⟨dG,dO,kZ⟩:=eU h hl ⟨7,cn,cp,ca,cb⟩
 have C0:Hid (ai _ (w.heap.size+1) (cc ⟨7,cn,cp,ca,cb⟩)):=dO
 have A0:Hid (aR w lo _ vs _ w.heap.size (w.heap.size+2) _ vs s):=dG
 have HS:Hid (aA _ _ s):=(h.on (by have:=R.small;omega)).keeps kZ
 clear dG dO h
 have TC:∀ w',aa _ w'->∀ i,i < 14->w'.cell? ⟨tb,k*14+i,none⟩=(tc t)[i]?:=fun w' kk=>T0 w' (kZ.trans kk)
 have jW:∀ w',aa _ w'->w'.cell? ⟨tb,k*14,none⟩=some (.int .i64 t.no):=fun w' kk=>T0 w' (kZ.trans kk) 0 (by omega)
 clear T0
 go_enter Tryz.func39,Tryz.ntmps39
 go_wp2_with fail
 change Calls _ _ _ (du w ⟨⟨some ⟨tb,0,none⟩,tn,ak⟩,⟨la,ln,aj⟩,⟨ga,gn,ao⟩,⟨fa,fn,aq⟩,⟨ra,rn,au⟩⟩ s ⟨7,cn,cp,ca,cb⟩) _
 generalize du w ⟨⟨some ⟨tb,0,none⟩,tn,ak⟩,⟨la,ln,aj⟩,⟨ga,gn,ao⟩,⟨fa,fn,aq⟩,⟨ra,rn,au⟩⟩ s ⟨7,cn,cp,ca,cb⟩=Z at *
 have hb0:∀ w',aa Z w'->∀ q,w'.cell? ⟨w.heap.size,q,none⟩=(ae s ⟨⟨some ⟨tb,0,none⟩,tn,ak⟩,⟨la,ln,aj⟩,⟨ga,gn,ao⟩,⟨fa,fn,aq⟩,⟨ra,rn,au⟩⟩)[q]?:=fun w' k=>(A0.out.g.var.box.keeps k).cells
 dsimp only [ae] at hb0
 have hc0:∀ w',aa Z w'->∀ q,w'.cell? ⟨w.heap.size+1,q,none⟩=(cc ⟨7,cn,cp,ca,cb⟩)[q]?:=fun w' k=>(C0.out.keeps k).cells
 refine (HS.out.gM.aZ cn eY.out (aa.refl _)).mono ?_
 rintro e w1 ⟨rfl,k1⟩
 go_upto_region 14 with fail
 have KY:aa Z (w1.alloc (.cells (tc t) 43)):=k1.alloc _
 have TB:Hid (ai (w1.alloc (.cells (tc t) 43)) w1.heap.size (tc t)):=ai.new _ _ _
 have AY:Hid (aR w lo _ vs _ w.heap.size (w.heap.size+2) _ vs s):=A0.out.keeps KY
 have SY:Hid (aA _ _ s):=HS.out.keeps KY
 change Code.wp _ _ _ _ (w1.alloc (.cells (tc t) 43))
 generalize w1.alloc (.cells (tc t) 43)=Y at *
 generalize w1.heap.size=iq at *
 have pD:∀ w',aa Y w'->∀ q,w'.cell? ⟨w.heap.size,q,none⟩=_:=fun w' kk=>hb0 w' (KY.trans kk)
 have pE:∀ w',aa Y w'->∀ q,w'.cell? ⟨w.heap.size+1,q,none⟩=_:=fun w' kk=>hc0 w' (KY.trans kk)
 have pF:∀ w',aa Y w'->∀ q,w'.cell? ⟨iq,q,none⟩=(tc t)[q]?:=fun w' kk=>(TB.out.keeps kk).cells
 clear hb0 hc0 TC jW A0 HS k1
 have HN:Hid (df s ⟨7,cn,cp,ca,cb⟩=kV s ⟨7,cn,cp,ca,cb⟩ t):=by show _=_;rw [hM];rfl
 have HC:Hid (ei s ⟨7,cn,cp,ca,cb⟩=uT s ⟨7,cn,cp,ca,cb⟩):=by show _=_;rw [hZ];rfl
 clear hM hZ
 have AP:=AY.out
 go_wp2_with (go_at_call 86;refine (FG AY.out.g.var.own (Nat.le_trans hl (Nat.le_trans kZ.size KY.size)) R ⟨7,cn,cp,ca,cb⟩ HK.out).mono ?_;rintro e w6 ⟨s6,v6,fh,rfl,hs6,g6⟩;obtain ⟨⟨bM,bN,cq⟩,⟨bG,bE,cr⟩,⟨bO,bP,ct⟩,⟨fa6,bQ,cw⟩,⟨bR,bS,cx⟩⟩:=v6;obtain ⟨P6,D6,G6⟩:=AP.pass g6;obtain ⟨_,r1,r2⟩:=P6)
 change bodyPost _ _ _ _ _ (putC w6 (w.heap.size+2) 0 (ae (s6:Sy) ⟨⟨bM,bN,cq⟩,⟨bG,bE,cr⟩,⟨bO,bP,ct⟩,⟨fa6,bQ,cw⟩,⟨bR,bS,cx⟩⟩).toList)
 generalize putC w6 (w.heap.size+2) 0 (ae (s6:Sy) ⟨⟨bM,bN,cq⟩,⟨bG,bE,cr⟩,⟨bO,bP,ct⟩,⟨fa6,bQ,cw⟩,⟨bR,bS,cx⟩⟩).toList=Q at D6 G6 ⊢
 exact bodyPost_ret (v := .tuple #[.agg (ae (s6:Sy) ⟨⟨bM,bN,cq⟩,⟨bG,bE,cr⟩,⟨bO,bP,ct⟩,⟨fa6,bQ,cw⟩,⟨bR,bS,cx⟩⟩),.int .i64 (kV s ⟨7,cn,cp,ca,cb⟩ t)]) (by simp [results,Tryz.results39,go_sem,D6.cells]) rfl (fL.of HN.out (fun e=>by rw [HC.out];exact hs6 e) G6)
set_option linter.unusedSimpArgs false in
set_option maxHeartbeats 8000000 in
theorem FH {w:World} {lo:Nat} {v:Sv} {vs:List Lv} {s:Sy} (h:ay w lo v vs s) (hl:lo <= w.heap.size) (R:cV s) (cn cp ca cb:Int) (hth:bF s.tasks cn=true) :
  Calls Tryz.prog 39 #[.agg (ae s v),ck ⟨8,cn,cp,ca,cb⟩] w (fL w lo v vs (df s ⟨8,cn,cp,ca,cb⟩) (ei s ⟨8,cn,cp,ca,cb⟩)):=by
 obtain ⟨⟨ta,tn,ak⟩,⟨la,ln,aj⟩,⟨ga,gn,ao⟩,⟨fa,fn,aq⟩,⟨ra,rn,au⟩⟩:=v
 obtain ⟨k,ek,ht,fX⟩:=mW hth
 have eY:Hid (dA s.tasks cn=(k:Int)):=ek
 obtain ⟨t,ht⟩:=ht
 have fM:de s.tasks cn=t:=fX t ht
 have hM:df s ⟨8,cn,cp,ca,cb⟩=mi s ⟨8,cn,cp,ca,cb⟩ t:=by rw [mh (by rfl) (by rfl) hth,fM]
 have hZ:ei s ⟨8,cn,cp,ca,cb⟩=lI s ⟨8,cn,cp,ca,cb⟩ k t:=by rw [nN (by rfl) (by rfl),ek,fM,Int.toNat_natCast]
 have hk:k < s.tasks.length:=da ht
 obtain ⟨tb,htb⟩:=h.bm hk
 dsimp only at htb
 subst htb
 have HK:Hid (s.tasks[k]?=some t):=ht
 have Hk:Hid (k < s.tasks.length):=hk
 have hkn:(k:Int) < (tn:Int):=by have:=(h.t.row dC).1;dsimp only at this;omega
 have T0:∀ w',aa w w'->∀ i,i < 14->w'.cell? ⟨tb,k*14+i,none⟩=(tc t)[i]?:=fun w' kk i hi=>(kk.cells tb _ (h.aG (i:=0) (b:=tb) rfl).2).trans ((h.aI (rb:=tb) rfl ht).1 i hi)
 clear ek fX fM hth
 obtain ⟨dG,dO,kZ⟩:=eU h hl ⟨8,cn,cp,ca,cb⟩
 have C0:Hid (ai _ (w.heap.size+1) (cc ⟨8,cn,cp,ca,cb⟩)):=dO
 have A0:Hid (aR w lo _ vs _ w.heap.size (w.heap.size+2) _ vs s):=dG
 have HS:Hid (aA _ _ s):=(h.on (by have:=R.small;omega)).keeps kZ
 clear dG dO h
 have TC:∀ w',aa _ w'->∀ i,i < 14->w'.cell? ⟨tb,k*14+i,none⟩=(tc t)[i]?:=fun w' kk=>T0 w' (kZ.trans kk)
 have jW:∀ w',aa _ w'->w'.cell? ⟨tb,k*14,none⟩=some (.int .i64 t.no):=fun w' kk=>T0 w' (kZ.trans kk) 0 (by omega)
 clear T0
 go_enter Tryz.func39,Tryz.ntmps39
 go_wp2_with fail
 change Calls _ _ _ (du w ⟨⟨some ⟨tb,0,none⟩,tn,ak⟩,⟨la,ln,aj⟩,⟨ga,gn,ao⟩,⟨fa,fn,aq⟩,⟨ra,rn,au⟩⟩ s ⟨8,cn,cp,ca,cb⟩) _
 generalize du w ⟨⟨some ⟨tb,0,none⟩,tn,ak⟩,⟨la,ln,aj⟩,⟨ga,gn,ao⟩,⟨fa,fn,aq⟩,⟨ra,rn,au⟩⟩ s ⟨8,cn,cp,ca,cb⟩=Z at *
 have hb0:∀ w',aa Z w'->∀ q,w'.cell? ⟨w.heap.size,q,none⟩=(ae s ⟨⟨some ⟨tb,0,none⟩,tn,ak⟩,⟨la,ln,aj⟩,⟨ga,gn,ao⟩,⟨fa,fn,aq⟩,⟨ra,rn,au⟩⟩)[q]?:=fun w' k=>(A0.out.g.var.box.keeps k).cells
 dsimp only [ae] at hb0
 have hc0:∀ w',aa Z w'->∀ q,w'.cell? ⟨w.heap.size+1,q,none⟩=(cc ⟨8,cn,cp,ca,cb⟩)[q]?:=fun w' k=>(C0.out.keeps k).cells
 refine (HS.out.gM.aZ cn eY.out (aa.refl _)).mono ?_
 rintro e w1 ⟨rfl,k1⟩
 go_upto_region 14 with fail
 have KY:aa Z (w1.alloc (.cells (tc t) 43)):=k1.alloc _
 have TB:Hid (ai (w1.alloc (.cells (tc t) 43)) w1.heap.size (tc t)):=ai.new _ _ _
 have AY:Hid (aR w lo _ vs _ w.heap.size (w.heap.size+2) _ vs s):=A0.out.keeps KY
 have SY:Hid (aA _ _ s):=HS.out.keeps KY
 change Code.wp _ _ _ _ (w1.alloc (.cells (tc t) 43))
 generalize w1.alloc (.cells (tc t) 43)=Y at *
 generalize w1.heap.size=iq at *
 have pD:∀ w',aa Y w'->∀ q,w'.cell? ⟨w.heap.size,q,none⟩=_:=fun w' kk=>hb0 w' (KY.trans kk)
 have pE:∀ w',aa Y w'->∀ q,w'.cell? ⟨w.heap.size+1,q,none⟩=_:=fun w' kk=>hc0 w' (KY.trans kk)
 have pF:∀ w',aa Y w'->∀ q,w'.cell? ⟨iq,q,none⟩=(tc t)[q]?:=fun w' kk=>(TB.out.keeps kk).cells
 clear hb0 hc0 TC jW A0 HS k1
 have HN:Hid (df s ⟨8,cn,cp,ca,cb⟩=je s ⟨8,cn,cp,ca,cb⟩ t):=by show _=_;rw [hM];rfl
 have HC:Hid (ei s ⟨8,cn,cp,ca,cb⟩=jX s ⟨8,cn,cp,ca,cb⟩):=by show _=_;rw [hZ];rfl
 clear hM hZ
 have AP:=AY.out
 go_wp2_with (go_at_call 87;refine (FI AY.out.g.var.own (Nat.le_trans hl (Nat.le_trans kZ.size KY.size)) R ⟨8,cn,cp,ca,cb⟩ HK.out).mono ?_;rintro e w6 ⟨s6,v6,fh,rfl,hs6,g6⟩;obtain ⟨⟨bM,bN,cq⟩,⟨bG,bE,cr⟩,⟨bO,bP,ct⟩,⟨fa6,bQ,cw⟩,⟨bR,bS,cx⟩⟩:=v6;obtain ⟨P6,D6,G6⟩:=AP.pass g6;obtain ⟨_,r1,r2⟩:=P6)
 change bodyPost _ _ _ _ _ (putC w6 (w.heap.size+2) 0 (ae (s6:Sy) ⟨⟨bM,bN,cq⟩,⟨bG,bE,cr⟩,⟨bO,bP,ct⟩,⟨fa6,bQ,cw⟩,⟨bR,bS,cx⟩⟩).toList)
 generalize putC w6 (w.heap.size+2) 0 (ae (s6:Sy) ⟨⟨bM,bN,cq⟩,⟨bG,bE,cr⟩,⟨bO,bP,ct⟩,⟨fa6,bQ,cw⟩,⟨bR,bS,cx⟩⟩).toList=Q at D6 G6 ⊢
 exact bodyPost_ret (v := .tuple #[.agg (ae (s6:Sy) ⟨⟨bM,bN,cq⟩,⟨bG,bE,cr⟩,⟨bO,bP,ct⟩,⟨fa6,bQ,cw⟩,⟨bR,bS,cx⟩⟩),.int .i64 (je s ⟨8,cn,cp,ca,cb⟩ t)]) (by simp [results,Tryz.results39,go_sem,D6.cells]) rfl (fL.of HN.out (fun e=>by rw [HC.out];exact hs6 e) G6)
set_option linter.unusedSimpArgs false in
set_option maxHeartbeats 8000000 in
theorem FJ {w:World} {lo:Nat} {v:Sv} {vs:List Lv} {s:Sy} (h:ay w lo v vs s) (hl:lo <= w.heap.size) (R:cV s) (cn cp ca cb:Int) (hth:bF s.tasks cn=true) :
  Calls Tryz.prog 39 #[.agg (ae s v),ck ⟨10,cn,cp,ca,cb⟩] w (fL w lo v vs (df s ⟨10,cn,cp,ca,cb⟩) (ei s ⟨10,cn,cp,ca,cb⟩)):=by
 obtain ⟨⟨ta,tn,ak⟩,⟨la,ln,aj⟩,⟨ga,gn,ao⟩,⟨fa,fn,aq⟩,⟨ra,rn,au⟩⟩:=v
 obtain ⟨k,ek,ht,fX⟩:=mW hth
 have eY:Hid (dA s.tasks cn=(k:Int)):=ek
 obtain ⟨t,ht⟩:=ht
 have fM:de s.tasks cn=t:=fX t ht
 have hM:df s ⟨10,cn,cp,ca,cb⟩=mi s ⟨10,cn,cp,ca,cb⟩ t:=by rw [mh (by rfl) (by rfl) hth,fM]
 have hZ:ei s ⟨10,cn,cp,ca,cb⟩=lI s ⟨10,cn,cp,ca,cb⟩ k t:=by rw [nN (by rfl) (by rfl),ek,fM,Int.toNat_natCast]
 have hk:k < s.tasks.length:=da ht
 obtain ⟨tb,htb⟩:=h.bm hk
 dsimp only at htb
 subst htb
 have HK:Hid (s.tasks[k]?=some t):=ht
 have Hk:Hid (k < s.tasks.length):=hk
 have hkn:(k:Int) < (tn:Int):=by have:=(h.t.row dC).1;dsimp only at this;omega
 have T0:∀ w',aa w w'->∀ i,i < 14->w'.cell? ⟨tb,k*14+i,none⟩=(tc t)[i]?:=fun w' kk i hi=>(kk.cells tb _ (h.aG (i:=0) (b:=tb) rfl).2).trans ((h.aI (rb:=tb) rfl ht).1 i hi)
 clear ek fX fM hth
 obtain ⟨dG,dO,kZ⟩:=eU h hl ⟨10,cn,cp,ca,cb⟩
 have C0:Hid (ai _ (w.heap.size+1) (cc ⟨10,cn,cp,ca,cb⟩)):=dO
 have A0:Hid (aR w lo _ vs _ w.heap.size (w.heap.size+2) _ vs s):=dG
 have HS:Hid (aA _ _ s):=(h.on (by have:=R.small;omega)).keeps kZ
 clear dG dO h
 have TC:∀ w',aa _ w'->∀ i,i < 14->w'.cell? ⟨tb,k*14+i,none⟩=(tc t)[i]?:=fun w' kk=>T0 w' (kZ.trans kk)
 have jW:∀ w',aa _ w'->w'.cell? ⟨tb,k*14,none⟩=some (.int .i64 t.no):=fun w' kk=>T0 w' (kZ.trans kk) 0 (by omega)
 clear T0
 go_enter Tryz.func39,Tryz.ntmps39
 go_wp2_with fail
 change Calls _ _ _ (du w ⟨⟨some ⟨tb,0,none⟩,tn,ak⟩,⟨la,ln,aj⟩,⟨ga,gn,ao⟩,⟨fa,fn,aq⟩,⟨ra,rn,au⟩⟩ s ⟨10,cn,cp,ca,cb⟩) _
 generalize du w ⟨⟨some ⟨tb,0,none⟩,tn,ak⟩,⟨la,ln,aj⟩,⟨ga,gn,ao⟩,⟨fa,fn,aq⟩,⟨ra,rn,au⟩⟩ s ⟨10,cn,cp,ca,cb⟩=Z at *
 have hb0:∀ w',aa Z w'->∀ q,w'.cell? ⟨w.heap.size,q,none⟩=(ae s ⟨⟨some ⟨tb,0,none⟩,tn,ak⟩,⟨la,ln,aj⟩,⟨ga,gn,ao⟩,⟨fa,fn,aq⟩,⟨ra,rn,au⟩⟩)[q]?:=fun w' k=>(A0.out.g.var.box.keeps k).cells
 dsimp only [ae] at hb0
 have hc0:∀ w',aa Z w'->∀ q,w'.cell? ⟨w.heap.size+1,q,none⟩=(cc ⟨10,cn,cp,ca,cb⟩)[q]?:=fun w' k=>(C0.out.keeps k).cells
 refine (HS.out.gM.aZ cn eY.out (aa.refl _)).mono ?_
 rintro e w1 ⟨rfl,k1⟩
 go_upto_region 14 with fail
 have KY:aa Z (w1.alloc (.cells (tc t) 43)):=k1.alloc _
 have TB:Hid (ai (w1.alloc (.cells (tc t) 43)) w1.heap.size (tc t)):=ai.new _ _ _
 have AY:Hid (aR w lo _ vs _ w.heap.size (w.heap.size+2) _ vs s):=A0.out.keeps KY
 have SY:Hid (aA _ _ s):=HS.out.keeps KY
 change Code.wp _ _ _ _ (w1.alloc (.cells (tc t) 43))
 generalize w1.alloc (.cells (tc t) 43)=Y at *
 generalize w1.heap.size=iq at *
 have pD:∀ w',aa Y w'->∀ q,w'.cell? ⟨w.heap.size,q,none⟩=_:=fun w' kk=>hb0 w' (KY.trans kk)
 have pE:∀ w',aa Y w'->∀ q,w'.cell? ⟨w.heap.size+1,q,none⟩=_:=fun w' kk=>hc0 w' (KY.trans kk)
 have pF:∀ w',aa Y w'->∀ q,w'.cell? ⟨iq,q,none⟩=(tc t)[q]?:=fun w' kk=>(TB.out.keeps kk).cells
 clear hb0 hc0 TC jW A0 HS k1
 have HN:Hid (df s ⟨10,cn,cp,ca,cb⟩=mr s ⟨10,cn,cp,ca,cb⟩ t):=by show _=_;rw [hM];rfl
 have HC:Hid (ei s ⟨10,cn,cp,ca,cb⟩=qK s ⟨10,cn,cp,ca,cb⟩ k t):=by show _=_;rw [hZ];rfl
 clear hM hZ
 have AP:=AY.out
 go_wp2_with (go_at_call 89;refine (FK AY.out.g.var.own (Nat.le_trans hl (Nat.le_trans kZ.size KY.size)) R ⟨10,cn,cp,ca,cb⟩ HK.out).mono ?_;rintro e w6 ⟨s6,v6,fh,rfl,hs6,g6⟩;obtain ⟨⟨bM,bN,cq⟩,⟨bG,bE,cr⟩,⟨bO,bP,ct⟩,⟨fa6,bQ,cw⟩,⟨bR,bS,cx⟩⟩:=v6;obtain ⟨P6,D6,G6⟩:=AP.pass g6;obtain ⟨_,r1,r2⟩:=P6)
 change bodyPost _ _ _ _ _ (putC w6 (w.heap.size+2) 0 (ae (s6:Sy) ⟨⟨bM,bN,cq⟩,⟨bG,bE,cr⟩,⟨bO,bP,ct⟩,⟨fa6,bQ,cw⟩,⟨bR,bS,cx⟩⟩).toList)
 generalize putC w6 (w.heap.size+2) 0 (ae (s6:Sy) ⟨⟨bM,bN,cq⟩,⟨bG,bE,cr⟩,⟨bO,bP,ct⟩,⟨fa6,bQ,cw⟩,⟨bR,bS,cx⟩⟩).toList=Q at D6 G6 ⊢
 exact bodyPost_ret (v := .tuple #[.agg (ae (s6:Sy) ⟨⟨bM,bN,cq⟩,⟨bG,bE,cr⟩,⟨bO,bP,ct⟩,⟨fa6,bQ,cw⟩,⟨bR,bS,cx⟩⟩),.int .i64 (mr s ⟨10,cn,cp,ca,cb⟩ t)]) (by simp [results,Tryz.results39,go_sem,D6.cells]) rfl (fL.of HN.out (fun e=>by rw [HC.out];exact hs6 e) G6)
end Go.Proofs.YteagpjlgjfaclaaGreatDoor
