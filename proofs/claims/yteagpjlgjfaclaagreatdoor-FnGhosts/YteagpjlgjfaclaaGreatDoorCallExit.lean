/-
  Calls: a task ends.
-/
import Derived.Test.YteagpjlgjfaclaaGreatDoorTaskDel
import Derived.Test.YteagpjlgjfaclaaGreatDoorSysTurn
import Derived.Test.YteagpjlgjfaclaaGreatDoorCur
import Derived.Test.YteagpjlgjfaclaaGreatDoorSysShares
import Derived.Deep.Cut
namespace Go.Proofs.YteagpjlgjfaclaaGreatDoor
set_option maxRecDepth 100000
open Go.RowKit
attribute [local go_sem] aa.refl aa.alloc aa.drew aa.drewN
theorem vC {α:Type} {xs:List α} {i k:Nat} {x:α} (h:xs[i]?=some x):(xs.take (i+1)).eraseIdx k=if i=k then (xs.take i).eraseIdx k else (xs.take i).eraseIdx k++[x]:=by
 have hi:=cZ h
 have hl:(xs.take i).length=i:=by rw [List.length_take];omega
 rw [jd h]
 by_cases h1:k < i
 ·rw [if_neg (by omega),List.eraseIdx_append_of_lt_length (by omega)]
 ·rw [List.eraseIdx_append_of_length_le (by omega),hl,List.eraseIdx_of_length_le (l:=xs.take i) (by omega)]
  by_cases h2:i=k
  ·rw [if_pos h2,show k - i=0 from by omega];simp
  ·rw [if_neg h2,show k - i=(k - i - 1)+1 from by omega];simp
set_option linter.unusedSimpArgs false in
set_option maxHeartbeats 8000000 in
theorem Bl {w:World} {lo:Nat} {v:Sv} {vs:List Lv} {s:Sy} (h:ay w lo v vs s) (hl:lo <= w.heap.size) (R:cx s) {k:Nat} {t:ar} (ht:s.tasks[k]?=some t) :
  Calls Tryz.prog 85 #[.agg (ae s v),.int .i64 k] w (eQ w lo v vs (eH s t) (fk s k t)):=by
 obtain ⟨⟨ta,tn,ag⟩,⟨la,ln,ah⟩,⟨ga,gn,ai⟩,⟨fa,fn,aj⟩,⟨ra,rn,ao⟩⟩:=v
 have hk:k < s.tasks.length:=cZ ht
 obtain ⟨tb,htb⟩:=h.aW hk
 dsimp only at htb
 subst htb
 have HL:Hid (s.tasks.length=tn):=(h.t.row cF).1
 have HG:Hid (s.af.length=gn):=(h.g.row ia).1
 have htn:tn <= 12:=by rw [<- HL.out];exact R.few.1
 have hgn:gn <= 12:=by rw [<- HG.out];exact R.few.2.2.1
 obtain ⟨oa,kv⟩:∃ z,Hid (gO s.ak t.no=z):=⟨_,rfl⟩
 obtain ⟨za,Hz⟩:∃ z,Hid (dS s.ak t.no=z):=⟨_,rfl⟩
 obtain ⟨bad,dy⟩:∃ z,Hid ((oa||decide (0 <= za))=z):=⟨_,rfl⟩
 obtain ⟨lv,ld⟩:∃ z,Hid (je s t=z):=⟨_,rfl⟩
 have dJ:Hid (eH s t=if bad then 5 else if lv&&gn==12 then 4 else 0):=by
  show _=_
  have e1:(!decide (za < 0))=decide (0 <= za):=by rw [Bool.eq_iff_iff];simp
  unfold eH jV
  rw [kv.out,Hz.out,e1,dy.out,ld.out,HG.out]
 have kR:Hid (fk s k t={ (s:Sy) with af:=if lv then s.af++[f8 t] else s.af,tasks:=s.tasks.eraseIdx k }):=by
  show _=_
  unfold fk
  rw [ld.out]
 have hkn:(k:Int) < (tn:Int):=by have:=(h.t.row cF).1;dsimp only at this;omega
 obtain ⟨dj,kZ⟩:=sB h hl
 have T0:∀ w',aa (lO w ⟨⟨some ⟨tb,0,none⟩,tn,ag⟩,⟨la,ln,ah⟩,⟨ga,gn,ai⟩,⟨fa,fn,aj⟩,⟨ra,rn,ao⟩⟩ s) w'->∀ i,i < 14->w'.cell? ⟨tb,k*14+i,none⟩=(tc t)[i]?:=fun w' kk i hi=>((kZ.trans kk).cells tb _ (h.aG (i:=0) (b:=tb) rfl).2).trans ((h.aJ (rb:=tb) rfl ht).1 i hi)
 have lf:∀ w',aa (lO w ⟨⟨some ⟨tb,0,none⟩,tn,ag⟩,⟨la,ln,ah⟩,⟨ga,gn,ai⟩,⟨fa,fn,aj⟩,⟨ra,rn,ao⟩⟩ s) w'->w'.cell? ⟨tb,k*14,none⟩=some (.int .i64 t.no):=fun w' kk=>T0 w' kk 0 (by omega)
 have jf:Hid (aQ w lo ⟨⟨some ⟨tb,0,none⟩,tn,ag⟩,⟨la,ln,ah⟩,⟨ga,gn,ai⟩,⟨fa,fn,aj⟩,⟨ra,rn,ao⟩⟩ vs (lO w ⟨⟨some ⟨tb,0,none⟩,tn,ag⟩,⟨la,ln,ah⟩,⟨ga,gn,ai⟩,⟨fa,fn,aj⟩,⟨ra,rn,ao⟩⟩ s) w.heap.size (w.heap.size+1) ⟨⟨some ⟨tb,0,none⟩,tn,ag⟩,⟨la,ln,ah⟩,⟨ga,gn,ai⟩,⟨fa,fn,aj⟩,⟨ra,rn,ao⟩⟩ vs s):=dj
 have pk:Hid (aA (lO w ⟨⟨some ⟨tb,0,none⟩,tn,ag⟩,⟨la,ln,ah⟩,⟨ga,gn,ai⟩,⟨fa,fn,aj⟩,⟨ra,rn,ao⟩⟩ s) ⟨⟨some ⟨tb,0,none⟩,tn,ag⟩,⟨la,ln,ah⟩,⟨ga,gn,ai⟩,⟨fa,fn,aj⟩,⟨ra,rn,ao⟩⟩ s):=(h.on (by have:=R.small;omega)).keeps kZ
 clear dj  h
 go_enter Tryz.func85,Tryz.ntmps85
 go_upto_region 1 with fail
 change Code.wp _ _ _ _ (lO w ⟨⟨some ⟨tb,0,none⟩,tn,ag⟩,⟨la,ln,ah⟩,⟨ga,gn,ai⟩,⟨fa,fn,aj⟩,⟨ra,rn,ao⟩⟩ s)
 generalize lO w ⟨⟨some ⟨tb,0,none⟩,tn,ag⟩,⟨la,ln,ah⟩,⟨ga,gn,ai⟩,⟨fa,fn,aj⟩,⟨ra,rn,ao⟩⟩ s=Z0 at *
 have jW:∀ w',aa Z0 w'->∀ q,w'.cell? ⟨w.heap.size,q,none⟩=(ae s ⟨⟨some ⟨tb,0,none⟩,tn,ag⟩,⟨la,ln,ah⟩,⟨ga,gn,ai⟩,⟨fa,fn,aj⟩,⟨ra,rn,ao⟩⟩)[q]?:=fun w' k=>(jf.out.g.var.box.keeps k).cells
 dsimp only [ae] at jW
 go_upto_region 2 with fail
 have TB:Hid (aq (Z0.alloc (.cells (tc t) 43)) Z0.heap.size (tc t)):=aq.new _ _ _
 have A0:Hid (aQ w lo ⟨⟨some ⟨tb,0,none⟩,tn,ag⟩,⟨la,ln,ah⟩,⟨ga,gn,ai⟩,⟨fa,fn,aj⟩,⟨ra,rn,ao⟩⟩ vs (Z0.alloc (.cells (tc t) 43)) w.heap.size (w.heap.size+1) ⟨⟨some ⟨tb,0,none⟩,tn,ag⟩,⟨la,ln,ah⟩,⟨ga,gn,ai⟩,⟨fa,fn,aj⟩,⟨ra,rn,ao⟩⟩ vs s):=jf.out.keeps ((aa.refl _).alloc _)
 have HS:Hid (aA (Z0.alloc (.cells (tc t) 43)) ⟨⟨some ⟨tb,0,none⟩,tn,ag⟩,⟨la,ln,ah⟩,⟨ga,gn,ai⟩,⟨fa,fn,aj⟩,⟨ra,rn,ao⟩⟩ s):=pk.out.keeps ((aa.refl _).alloc _)
 have Cd:Hid (∀ i,¬ aX ⟨⟨some ⟨tb,0,none⟩,tn,ag⟩,⟨la,ln,ah⟩,⟨ga,gn,ai⟩,⟨fa,fn,aj⟩,⟨ra,rn,ao⟩⟩ vs i Z0.heap.size):=fun i hi=>by have:=(jf.out.g.var.own.aG hi).2;omega
 have eS:w.heap.size≠Z0.heap.size:=by have:=jf.out.g.var.box.lt;omega
 have hrb:w.heap.size+1≠Z0.heap.size:=by have:=jf.out.r.lt;omega
 change Code.wp _ _ _ _ (Z0.alloc (.cells (tc t) 43))
 clear T0 lf jW jf pk kZ
 generalize Z0.alloc (.cells (tc t) 43)=Z at *
 generalize Z0.heap.size=eC at *
 have hb0:∀ w',aa Z w'->∀ q,w'.cell? ⟨w.heap.size,q,none⟩=(ae s ⟨⟨some ⟨tb,0,none⟩,tn,ag⟩,⟨la,ln,ah⟩,⟨ga,gn,ai⟩,⟨fa,fn,aj⟩,⟨ra,rn,ao⟩⟩)[q]?:=fun w' k=>(A0.out.g.var.box.keeps k).cells
 dsimp only [ae] at hb0
 have ht0:∀ w',aa Z w'->∀ j,w'.cell? ⟨eC,j,none⟩=(tc t)[j]?:=fun w' k=>(TB.out.keeps k).cells
 have OA:Hid (∀ w',aa Z w'->Calls Tryz.prog 148 #[.slice la ln ah,.int .i64 t.no] w' fun e w''=>e = .returned (.bool oa) /\ aa w' w''):=fun w' kk=>HS.out.gx.gU t.no kv.out kk
 have WA:Hid (∀ w',aa Z w'->Calls Tryz.prog 84 #[.slice la ln ah,.int .i64 t.no] w' fun e w''=>e = .returned (.int .i64 za) /\ aa w' w''):=fun w' kk=>HS.out.gx.eK t.no Hz.out kk
 go_cut [26] (fun b wx=>b = .bool bad /\ aa Z wx)
 case first =>
  cases oa
  rotate_left
  ·have hr:bad=true:=by rw [<- dy.out];rfl
   go_wp2_with (go_at_call 148;refine (OA.out _ (by first | assumption | exact aa.refl _ | exact (aa.refl _).drew | exact aa.drew (by assumption))).mono ?_;rintro e w5 ⟨rfl,k5⟩)
   go_meet
   exact ⟨by rw [hr],k5⟩
  have hr:bad=decide (0 <= za):=by rw [<- dy.out];rfl
  go_wp2_with (go_at_call 148;refine (OA.out _ (by first | assumption | exact aa.refl _ | exact (aa.refl _).drew | exact aa.drew (by assumption))).mono ?_;rintro e w5 ⟨rfl,k5⟩)
  have Ce:aa Z w5:=k5
  go_wp2_with (go_at_call 84;refine (WA.out _ (by first | assumption | exact aa.refl _ | exact (aa.refl _).drew | exact aa.drew (by assumption))).mono ?_;rintro e w6 ⟨rfl,k6⟩)
  go_meet
  exact ⟨by rw [hr],k5.trans k6⟩
 case rest =>
 obtain ⟨rfl,kx⟩:=hcut
 generalize wc=wx at *
 clear OA WA dy Hz kv
 cases bad
 rotate_left
 ·have HN:Hid (eH s t=5):=dJ.out
  have AE:=A0.out.keeps kx
  obtain ⟨_,o1,o2⟩:=AE.g.var.box
  dsimp only [ae] at o1
  obtain ⟨_,r1,r2⟩:=AE.r
  go_wp2
  exact AE.ret HN.out (fun h=>absurd h (by decide)) rfl (fun Q D=>by simp [results,Tryz.results85,go_sem,D])
 have AX:Hid (aQ w lo ⟨⟨some ⟨tb,0,none⟩,tn,ag⟩,⟨la,ln,ah⟩,⟨ga,gn,ai⟩,⟨fa,fn,aj⟩,⟨ra,rn,ao⟩⟩ vs wx w.heap.size (w.heap.size+1) ⟨⟨some ⟨tb,0,none⟩,tn,ag⟩,⟨la,ln,ah⟩,⟨ga,gn,ai⟩,⟨fa,fn,aj⟩,⟨ra,rn,ao⟩⟩ vs s):=A0.out.keeps kx
 have TX:Hid (aq wx eC (tc t)):=TB.out.keeps kx
 have hbx:∀ w',aa wx w'->∀ j,w'.cell? ⟨w.heap.size,j,none⟩=_:=fun w' kk=>hb0 w' (kx.trans kk)
 have htx:∀ w',aa wx w'->∀ j,w'.cell? ⟨eC,j,none⟩=_:=fun w' kk=>ht0 w' (kx.trans kk)
 clear hb0 ht0
 go_upto_region 4 with fail
 go_cut [37] (fun b wy=>b = .bool lv /\ wy=wx)
 case first =>
  cases d3:(t.cls==1)
  ·have hr:lv=false:=by rw [<- ld.out];unfold je;rw [d3];rfl
   go_wp2
   go_meet
   exact ⟨by rw [hr],rfl⟩
  have hr:lv=decide (s.now < t.due):=by rw [<- ld.out];unfold je;rw [d3];rfl
  go_wp2
  go_meet
  exact ⟨by rw [hr],rfl⟩
 case rest =>
 obtain ⟨rfl,Cf⟩:=hcut
 have sC:=Cf.symm
 subst sC
 clear ld
 cases lv
 ·have HN:Hid (eH s t=0):=dJ.out
  clear htx
  have hbX:∀ w',aa wx w'->∀ j,w'.cell? ⟨w.heap.size,j,none⟩=(ae (s:Sy) ⟨⟨some ⟨tb,0,none⟩,tn,ag⟩,⟨la,ln,ah⟩,⟨ga,gn,ai⟩,⟨fa,fn,aj⟩,⟨ra,rn,ao⟩⟩)[j]?:=fun w' kk=>(AX.out.g.var.box.keeps kk).cells
  dsimp only [ae] at hbX
  have TR:Hid (∀ (m:Nat) (x:ar),s.tasks[m]?=some x->∀ w',aa wx w'->∀ j,j < 14->w'.cell? ⟨tb,m*14+j,none⟩=(tc x)[j]?):=fun m x hm w' kk j hj=>(kk.cells tb _ (AX.out.g.var.own.aG (i:=0) (b:=tb) rfl).2).trans ((AX.out.g.var.own.aJ (rb:=tb) rfl hm).1 j hj)
  go_wp2_with fail
  have kz:aa wx (wx.alloc (.cells #[] 43)):=(aa.refl _).alloc _
  have dC:dr (wx.alloc (.cells #[] 43)) wx.heap.size (.slice (some ⟨wx.heap.size,0,none⟩) 0 0) []:=Own.new 43 14 tc wx (Nat.le_refl _)
  generalize wx.alloc (.cells #[] 43)=W at *
  go_loopw [7,8] (fun v i wr=>∃ (m:Nat) (xs:List ar),m <= tn /\ i = .int .i64 m /\ xs.length <= m /\ Hid (xs=(s.tasks.take m).eraseIdx k) /\ Hid (dr wr wx.heap.size v xs) /\ aa wx wr) (fun _ i _=>tn - (intOf i).toNat)
  case atStart=>exact ⟨0,[],Nat.zero_le _,rfl,Nat.le_refl _,by show _=_;simp,dC,kz⟩
  case round =>
   obtain ⟨m,xs,hm,rfl,hxl,HX,HW,hK⟩:=hrel
   clear dC kz
   by_cases hlt:m < tn
   ·have hlt':(m:Int) < (tn:Int):=by omega
    obtain ⟨x,hx⟩:=cd (xs:=s.tasks) (k:=m) (by rw [HL.out];exact hlt)
    have r1:∀ w',aa wx w'->∀ j,j < 14->w'.cell? ⟨tb,m*14+j,none⟩=(tc x)[j]?:=TR.out m x hx
    have r0:∀ w',aa wx w'->w'.cell? ⟨tb,m*14,none⟩=some (.int .i64 x.no):=fun w' kk=>r1 w' kk 0 (by omega)
    have HE:Hid ((s.tasks.take (m+1)).eraseIdx k=if m=k then xs else xs++[x]):=by show _=_;rw [vC hx,<- HX.out]
    clear hx HX
    by_cases hmk:m=k
    ·have hne:((m:Int) != (k:Int))=false:=by simp [hmk]
     have jX:Hid (xs=(s.tasks.take (m+1)).eraseIdx k):=by show _=_;rw [HE.out,if_pos hmk]
     clear hmk HE
     go_wp2
     exact ⟨⟨m+1,xs,by omega,by go_num,by omega,jX,HW,hK⟩,by simp only [intOf];omega⟩
    ·have hne:((m:Int) != (k:Int))=true:=by simp;omega
     have jX:Hid (xs++[x]=(s.tasks.take (m+1)).eraseIdx k):=by show _=_;rw [HE.out,if_neg hmk]
     clear hmk HE
     go_wp2_with (at_builtin;(refine ib rfl _ _ 24 rfl wx 43 (.agg (tc ar.zero)) 14 112 tc Tryz.underlying24 (by kernel_rfl) rfl (by decide) cF gV _ xs rfl wr HW.out hK ((aa.refl _).alloc _) x _ 1 (aq.new _ _ _) rfl ?c1 ?c2 ?_))
     case c1=>unfold maxLen;omega
     case c2=>omega
     intro v' w5 cz k5 _
     have sD:Hid (dr w5 wx.heap.size v' (xs++[x])):=cz
     clear cz HW
     go_wp2
     exact ⟨⟨m+1,xs++[x],by omega,by go_num,by simp;omega,jX,sD,k5⟩,by simp only [intOf];omega⟩
   ·have hlt':decide ((m:Int) < (tn:Int))=false:=by simp;omega
    have jX:Hid (xs=s.tasks.eraseIdx k):=by
     have h1:=HX.out
     rw [List.take_of_length_le (by have:=HL.out;omega)] at h1
     exact h1
    clear HX
    obtain ⟨a9,c9,e9⟩:=HW.out.form cF
    obtain ⟨n9,sE⟩:∃ n,Hid (xs.length=n):=⟨_,rfl⟩
    rw [sE.out] at e9
    subst e9
    have AN:Hid (aQ w lo ⟨⟨some ⟨tb,0,none⟩,tn,ag⟩,⟨la,ln,ah⟩,⟨ga,gn,ai⟩,⟨fa,fn,aj⟩,⟨ra,rn,ao⟩⟩ vs (wr.setCell ⟨w.heap.size,2,none⟩ (.slice a9 n9 c9)) w.heap.size (w.heap.size+1) ⟨⟨a9,n9,c9⟩,⟨la,ln,ah⟩,⟨ga,gn,ai⟩,⟨fa,fn,aj⟩,⟨ra,rn,ao⟩⟩ vs { (s:Sy) with tasks:=xs }):=AX.out.tasks hK (x:=⟨a9,n9,c9⟩) HW.out
    have HC:Hid ({ (s:Sy) with tasks:=xs }=fk s k t):=by show _=_;rw [kR.out,jX.out];rfl
    obtain ⟨_,p1,p2⟩:=(AX.out.keeps hK).g.var.box
    dsimp only [ae] at p1
    have hsz:w.heap.size+1≠w.heap.size:=by omega
    have AE:=AN.out
    obtain ⟨_,o1,o2⟩:=AE.g.var.box
    dsimp only [ae] at o1
    obtain ⟨_,r1,r2⟩:=AE.r
    go_wp2
    exact AE.ret HN.out (fun _=>HC.out) rfl (fun Q D=>by simp [results,Tryz.results85,go_sem,D])
 cases g12:(gn==12)
 rotate_left
 ·have HN:Hid (eH s t=4):=by show _=_;rw [dJ.out,g12];rfl
  have sF:((gn:Int)==12)=true:=by simp at g12 ⊢;omega
  have AE:=AX.out
  obtain ⟨_,o1,o2⟩:=AE.g.var.box
  dsimp only [ae] at o1
  obtain ⟨_,r1,r2⟩:=AE.r
  go_wp2
  exact AE.ret HN.out (fun h=>absurd h (by decide)) rfl (fun Q D=>by simp [results,Tryz.results85,go_sem,D])
 have HN:Hid (eH s t=0):=by show _=_;rw [dJ.out,g12];rfl
 have sF:((gn:Int)==12)=false:=by simp at g12 ⊢;omega
 go_upto_region 7 with fail
 have f63:s.af.length+1 <= 13:=by rw [HG.out];omega
 go_upto_region 8 with (at_builtin;(refine qc5 rfl _ _ 26 rfl lo 87 (.agg (cP Gh.zero)) 4 32 cP Tryz.underlying26 (by kernel_rfl) rfl (by decide) ia nR _ s.af rfl (AX.out.g.var.own.g.keeps ((aa.refl _).alloc _)) (by have:=AX.out.g.var.fu;have:=AX.out.g.var.box.lt;simp;omega) (f8 t) _ 1 (aq.new _ _ _) rfl (by unfold maxLen;omega) (by omega) ?_;intro v6 w6 o6 g6 f6;obtain ⟨a6,c6,e6⟩:=o6.form ia;obtain ⟨m6,jg⟩:∃ m,Hid ((s.af++[f8 t]).length=m):=⟨_,rfl⟩;rw [jg.out] at e6;subst e6;have AG:=AX.out.af ((aa.refl wx).alloc _) (x:=⟨a6,m6,c6⟩) o6 g6 (fun q hq=>(f6 q hq).imp id (fun e=>Nat.le_of_eq e.symm));obtain ⟨_,p1,p2⟩:=(AX.out.g.var.box.keeps ((aa.refl wx).alloc _)).grown g6 (fun q e e2=>AX.out.g.var.far 2 (by rw [<- e2];exact e));dsimp only [ae] at p1))
 have pn:Hid (aQ w lo ⟨⟨some ⟨tb,0,none⟩,tn,ag⟩,⟨la,ln,ah⟩,⟨ga,gn,ai⟩,⟨fa,fn,aj⟩,⟨ra,rn,ao⟩⟩ vs (w6.setCell ⟨w.heap.size,4,none⟩ (.slice a6 m6 c6)) w.heap.size (w.heap.size+1) ⟨⟨some ⟨tb,0,none⟩,tn,ag⟩,⟨la,ln,ah⟩,⟨a6,m6,c6⟩,⟨fa,fn,aj⟩,⟨ra,rn,ao⟩⟩ vs { (s:Sy) with af:=s.af++[f8 t] }):=AG
 clear AG p1 p2 o6 g6 f6 hbx htx
 generalize w6.setCell ⟨w.heap.size,4,none⟩ (.slice a6 m6 c6)=X at *
 have hbX:∀ w',aa X w'->∀ j,w'.cell? ⟨w.heap.size,j,none⟩=(ae ({ (s:Sy) with af:=s.af++[f8 t] }:Sy) ⟨⟨some ⟨tb,0,none⟩,tn,ag⟩,⟨la,ln,ah⟩,⟨a6,m6,c6⟩,⟨fa,fn,aj⟩,⟨ra,rn,ao⟩⟩)[j]?:=fun w' kk=>(pn.out.g.var.box.keeps kk).cells
 dsimp only [ae] at hbX
 have TR:Hid (∀ (m:Nat) (x:ar),s.tasks[m]?=some x->∀ w',aa X w'->∀ j,j < 14->w'.cell? ⟨tb,m*14+j,none⟩=(tc x)[j]?):=fun m x hm w' kk j hj=>(kk.cells tb _ (pn.out.g.var.own.aG (i:=0) (b:=tb) rfl).2).trans ((pn.out.g.var.own.aJ (rb:=tb) rfl hm).1 j hj)
 go_wp2_with fail
 have kz:aa X (X.alloc (.cells #[] 43)):=(aa.refl _).alloc _
 have dC:dr (X.alloc (.cells #[] 43)) X.heap.size (.slice (some ⟨X.heap.size,0,none⟩) 0 0) []:=Own.new 43 14 tc X (Nat.le_refl _)
 generalize X.alloc (.cells #[] 43)=W at *
 go_loopw [7,8] (fun v i wr=>∃ (m:Nat) (xs:List ar),m <= tn /\ i = .int .i64 m /\ xs.length <= m /\ Hid (xs=(s.tasks.take m).eraseIdx k) /\ Hid (dr wr X.heap.size v xs) /\ aa X wr) (fun _ i _=>tn - (intOf i).toNat)
 case atStart=>exact ⟨0,[],Nat.zero_le _,rfl,Nat.le_refl _,by show _=_;simp,dC,kz⟩
 case round =>
  obtain ⟨m,xs,hm,rfl,hxl,HX,HW,hK⟩:=hrel
  clear dC kz
  by_cases hlt:m < tn
  ·have hlt':(m:Int) < (tn:Int):=by omega
   obtain ⟨x,hx⟩:=cd (xs:=s.tasks) (k:=m) (by rw [HL.out];exact hlt)
   have r1:∀ w',aa X w'->∀ j,j < 14->w'.cell? ⟨tb,m*14+j,none⟩=(tc x)[j]?:=TR.out m x hx
   have r0:∀ w',aa X w'->w'.cell? ⟨tb,m*14,none⟩=some (.int .i64 x.no):=fun w' kk=>r1 w' kk 0 (by omega)
   have HE:Hid ((s.tasks.take (m+1)).eraseIdx k=if m=k then xs else xs++[x]):=by show _=_;rw [vC hx,<- HX.out]
   clear hx HX
   by_cases hmk:m=k
   ·have hne:((m:Int) != (k:Int))=false:=by simp [hmk]
    have jX:Hid (xs=(s.tasks.take (m+1)).eraseIdx k):=by show _=_;rw [HE.out,if_pos hmk]
    clear hmk HE
    go_wp2
    exact ⟨⟨m+1,xs,by omega,by go_num,by omega,jX,HW,hK⟩,by simp only [intOf];omega⟩
   ·have hne:((m:Int) != (k:Int))=true:=by simp;omega
    have jX:Hid (xs++[x]=(s.tasks.take (m+1)).eraseIdx k):=by show _=_;rw [HE.out,if_neg hmk]
    clear hmk HE
    go_wp2_with (at_builtin;(refine ib rfl _ _ 24 rfl X 43 (.agg (tc ar.zero)) 14 112 tc Tryz.underlying24 (by kernel_rfl) rfl (by decide) cF gV _ xs rfl wr HW.out hK ((aa.refl _).alloc _) x _ 1 (aq.new _ _ _) rfl ?c1 ?c2 ?_))
    case c1=>unfold maxLen;omega
    case c2=>omega
    intro v' w5 cz k5 _
    have sD:Hid (dr w5 X.heap.size v' (xs++[x])):=cz
    clear cz HW
    go_wp2
    exact ⟨⟨m+1,xs++[x],by omega,by go_num,by simp;omega,jX,sD,k5⟩,by simp only [intOf];omega⟩
  ·have hlt':decide ((m:Int) < (tn:Int))=false:=by simp;omega
   have jX:Hid (xs=s.tasks.eraseIdx k):=by
    have h1:=HX.out
    rw [List.take_of_length_le (by have:=HL.out;omega)] at h1
    exact h1
   clear HX
   obtain ⟨a9,c9,e9⟩:=HW.out.form cF
   obtain ⟨n9,sE⟩:∃ n,Hid (xs.length=n):=⟨_,rfl⟩
   rw [sE.out] at e9
   subst e9
   have AN:Hid (aQ w lo ⟨⟨some ⟨tb,0,none⟩,tn,ag⟩,⟨la,ln,ah⟩,⟨ga,gn,ai⟩,⟨fa,fn,aj⟩,⟨ra,rn,ao⟩⟩ vs (wr.setCell ⟨w.heap.size,2,none⟩ (.slice a9 n9 c9)) w.heap.size (w.heap.size+1) ⟨⟨a9,n9,c9⟩,⟨la,ln,ah⟩,⟨a6,m6,c6⟩,⟨fa,fn,aj⟩,⟨ra,rn,ao⟩⟩ vs { ({ (s:Sy) with af:=s.af++[f8 t] }:Sy) with tasks:=xs }):=pn.out.tasks hK (x:=⟨a9,n9,c9⟩) HW.out
   have HC:Hid ({ ({ (s:Sy) with af:=s.af++[f8 t] }:Sy) with tasks:=xs }=fk s k t):=by show _=_;rw [kR.out,jX.out];rfl
   obtain ⟨_,p1,p2⟩:=(pn.out.keeps hK).g.var.box
   dsimp only [ae] at p1
   have hsz:w.heap.size+1≠w.heap.size:=by omega
   have AE:=AN.out
   obtain ⟨_,o1,o2⟩:=AE.g.var.box
   dsimp only [ae] at o1
   obtain ⟨_,r1,r2⟩:=AE.r
   go_wp2
   exact AE.ret HN.out (fun _=>HC.out) rfl (fun Q D=>by simp [results,Tryz.results85,go_sem,D])
end Go.Proofs.YteagpjlgjfaclaaGreatDoor
