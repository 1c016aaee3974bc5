/-
  Calls: a task ends.
  Calls: what is done of a right call: sleep, waking, a new n
-/
import Derived.Test.YteagpjlgjfaclaaGreatDoorDraw1
import Derived.Test.YteagpjlgjfaclaaGreatDoorSysTurn
import Derived.Test.YteagpjlgjfaclaaGreatDoorTaskBase
import Derived.Test.YteagpjlgjfaclaaGreatDoorSysShares
import Derived.Deep.Cut
import Derived.Test.YteagpjlgjfaclaaGreatDoorFrame
namespace Go.Proofs.YteagpjlgjfaclaaGreatDoor
set_option maxRecDepth 100000
open Go.RowKit
attribute [local go_sem] Keeps.refl Keeps.alloc Keeps.drew Keeps.drewN
theorem qfK {α:Type} {xs:List α} {i k:Nat} {x:α} (h:xs[i]?=some x):(xs.take (i+1)).eraseIdx k=if i=k then (xs.take i).eraseIdx k else (xs.take i).eraseIdx k++[x]:=by
 have hi:=qaw h
 have hl:(xs.take i).length=i:=by rw [List.length_take];omega
 rw [qb6 h]
 by_cases h1:k < i
 ·rw [if_neg (by omega),List.eraseIdx_append_of_lt_length (by omega)]
 ·rw [List.eraseIdx_append_of_length_le (by omega),hl,List.eraseIdx_of_length_le (l:=xs.take i) (by omega)]
  by_cases h2:i=k
  ·rw [if_pos h2,show k - i=0 from by omega];simp
  ·rw [if_neg h2,show k - i=(k - i - 1)+1 from by omega];simp
set_option linter.unusedSimpArgs false in
set_option maxHeartbeats 8000000 in
theorem qii {w:World} {lo:Nat} {v:Sv} {vs:List Lv} {s:Sy} (h:OwnS w lo v vs s) (hl:lo <= w.heap.size) (R:SysR s) {k:Nat} {t:Tsk} (ht:s.tasks[k]?=some t) :
  Calls Tryz.prog 85 #[.agg (syc s v),.int .i64 k] w (Did w lo v vs (qcx s t) (qdi s k t)):=by
 obtain ⟨⟨ta,tn,tcap⟩,⟨la,ln,lcap⟩,⟨ga,gn,gcap⟩,⟨fa,fn,fcap⟩,⟨ra,rn,rcap⟩⟩:=v
 have hk:k < s.tasks.length:=qaw ht
 obtain ⟨tb,htb⟩:=h.tasksAt hk
 dsimp only at htb
 subst htb
 have HL:Hid (s.tasks.length=tn):=(h.t.row qao).1
 have HG:Hid (s.ghosts.length=gn):=(h.g.row qb5).1
 have htn:tn <= 12:=by rw [<- HL.out];exact R.few.1
 have hgn:gn <= 12:=by rw [<- HG.out];exact R.few.2.2.1
 obtain ⟨oa,Hoa⟩:∃ z,Hid (qck s.locks t.no=z):=⟨_,rfl⟩
 obtain ⟨za,Hz⟩:∃ z,Hid (qaJ s.locks t.no=z):=⟨_,rfl⟩
 obtain ⟨bad,Hbad⟩:∃ z,Hid ((oa||decide (0 <= za))=z):=⟨_,rfl⟩
 obtain ⟨lv,Hlv⟩:∃ z,Hid (qei s t=z):=⟨_,rfl⟩
 have HN0:Hid (qcx s t=if bad then 5 else if lv&&gn==12 then 4 else 0):=by
  show _=_
  have e1:(!decide (za < 0))=decide (0 <= za):=by rw [Bool.eq_iff_iff];simp
  unfold qcx qeO
  rw [Hoa.out,Hz.out,e1,Hbad.out,Hlv.out,HG.out]
 have HC0:Hid (qdi s k t={ (s:Sy) with ghosts:=if lv then s.ghosts++[qdh t] else s.ghosts,tasks:=s.tasks.eraseIdx k }):=by
  show _=_
  unfold qdi
  rw [Hlv.out]
 have hkn:(k:Int) < (tn:Int):=by have:=(h.t.row qao).1;dsimp only at this;omega
 obtain ⟨A0',kZ⟩:=ask2 h hl
 have T0:∀ w',Keeps (qcX w ⟨⟨some ⟨tb,0,none⟩,tn,tcap⟩,⟨la,ln,lcap⟩,⟨ga,gn,gcap⟩,⟨fa,fn,fcap⟩,⟨ra,rn,rcap⟩⟩ s) w'->∀ i,i < 14->w'.cell? ⟨tb,k*14+i,none⟩=(tc t)[i]?:=fun w' kk i hi=>((kZ.trans kk).cells tb _ (h.blkLt (i:=0) (b:=tb) rfl).2).trans ((h.taskCells (rb:=tb) rfl ht).1 i hi)
 have T00:∀ w',Keeps (qcX w ⟨⟨some ⟨tb,0,none⟩,tn,tcap⟩,⟨la,ln,lcap⟩,⟨ga,gn,gcap⟩,⟨fa,fn,fcap⟩,⟨ra,rn,rcap⟩⟩ s) w'->w'.cell? ⟨tb,k*14,none⟩=some (.int .i64 t.no):=fun w' kk=>T0 w' kk 0 (by omega)
 have A00:Hid (AskR w lo ⟨⟨some ⟨tb,0,none⟩,tn,tcap⟩,⟨la,ln,lcap⟩,⟨ga,gn,gcap⟩,⟨fa,fn,fcap⟩,⟨ra,rn,rcap⟩⟩ vs (qcX w ⟨⟨some ⟨tb,0,none⟩,tn,tcap⟩,⟨la,ln,lcap⟩,⟨ga,gn,gcap⟩,⟨fa,fn,fcap⟩,⟨ra,rn,rcap⟩⟩ s) w.heap.size (w.heap.size+1) ⟨⟨some ⟨tb,0,none⟩,tn,tcap⟩,⟨la,ln,lcap⟩,⟨ga,gn,gcap⟩,⟨fa,fn,fcap⟩,⟨ra,rn,rcap⟩⟩ vs s):=A0'
 have HS0:Hid (SysOn (qcX w ⟨⟨some ⟨tb,0,none⟩,tn,tcap⟩,⟨la,ln,lcap⟩,⟨ga,gn,gcap⟩,⟨fa,fn,fcap⟩,⟨ra,rn,rcap⟩⟩ s) ⟨⟨some ⟨tb,0,none⟩,tn,tcap⟩,⟨la,ln,lcap⟩,⟨ga,gn,gcap⟩,⟨fa,fn,fcap⟩,⟨ra,rn,rcap⟩⟩ s):=(h.on (by have:=R.small;omega)).keeps kZ
 clear A0'  h
 go_enter Tryz.func85,Tryz.ntmps85
 go_upto_region 1 with fail
 change Code.wp _ _ _ _ (qcX w ⟨⟨some ⟨tb,0,none⟩,tn,tcap⟩,⟨la,ln,lcap⟩,⟨ga,gn,gcap⟩,⟨fa,fn,fcap⟩,⟨ra,rn,rcap⟩⟩ s)
 generalize qcX w ⟨⟨some ⟨tb,0,none⟩,tn,tcap⟩,⟨la,ln,lcap⟩,⟨ga,gn,gcap⟩,⟨fa,fn,fcap⟩,⟨ra,rn,rcap⟩⟩ s=Z0 at *
 have hb00:∀ w',Keeps Z0 w'->∀ q,w'.cell? ⟨w.heap.size,q,none⟩=(syc s ⟨⟨some ⟨tb,0,none⟩,tn,tcap⟩,⟨la,ln,lcap⟩,⟨ga,gn,gcap⟩,⟨fa,fn,fcap⟩,⟨ra,rn,rcap⟩⟩)[q]?:=fun w' k=>(A00.out.g.var.box.keeps k).cells
 dsimp only [syc] at hb00
 go_upto_region 2 with fail
 have TB:Hid (Blk (Z0.alloc (.cells (tc t) 43)) Z0.heap.size (tc t)):=Blk.new _ _ _
 have A0:Hid (AskR w lo ⟨⟨some ⟨tb,0,none⟩,tn,tcap⟩,⟨la,ln,lcap⟩,⟨ga,gn,gcap⟩,⟨fa,fn,fcap⟩,⟨ra,rn,rcap⟩⟩ vs (Z0.alloc (.cells (tc t) 43)) w.heap.size (w.heap.size+1) ⟨⟨some ⟨tb,0,none⟩,tn,tcap⟩,⟨la,ln,lcap⟩,⟨ga,gn,gcap⟩,⟨fa,fn,fcap⟩,⟨ra,rn,rcap⟩⟩ vs s):=A00.out.keeps ((Keeps.refl _).alloc _)
 have HS:Hid (SysOn (Z0.alloc (.cells (tc t) 43)) ⟨⟨some ⟨tb,0,none⟩,tn,tcap⟩,⟨la,ln,lcap⟩,⟨ga,gn,gcap⟩,⟨fa,fn,fcap⟩,⟨ra,rn,rcap⟩⟩ s):=HS0.out.keeps ((Keeps.refl _).alloc _)
 have ftb:Hid (∀ i,¬ qaf ⟨⟨some ⟨tb,0,none⟩,tn,tcap⟩,⟨la,ln,lcap⟩,⟨ga,gn,gcap⟩,⟨fa,fn,fcap⟩,⟨ra,rn,rcap⟩⟩ vs i Z0.heap.size):=fun i hi=>by have:=(A00.out.g.var.own.blkLt hi).2;omega
 have hob:w.heap.size≠Z0.heap.size:=by have:=A00.out.g.var.box.lt;omega
 have hrb:w.heap.size+1≠Z0.heap.size:=by have:=A00.out.r.lt;omega
 change Code.wp _ _ _ _ (Z0.alloc (.cells (tc t) 43))
 clear T0 T00 hb00 A00 HS0 kZ
 generalize Z0.alloc (.cells (tc t) 43)=Z at *
 generalize Z0.heap.size=tbx at *
 have hb0:∀ w',Keeps Z w'->∀ q,w'.cell? ⟨w.heap.size,q,none⟩=(syc s ⟨⟨some ⟨tb,0,none⟩,tn,tcap⟩,⟨la,ln,lcap⟩,⟨ga,gn,gcap⟩,⟨fa,fn,fcap⟩,⟨ra,rn,rcap⟩⟩)[q]?:=fun w' k=>(A0.out.g.var.box.keeps k).cells
 dsimp only [syc] at hb0
 have ht0:∀ w',Keeps Z w'->∀ j,w'.cell? ⟨tbx,j,none⟩=(tc t)[j]?:=fun w' k=>(TB.out.keeps k).cells
 have OA:Hid (∀ w',Keeps Z w'->Calls Tryz.prog 148 #[.slice la ln lcap,.int .i64 t.no] w' fun e w''=>e = .returned (.bool oa) /\ Keeps w' w''):=fun w' kk=>HS.out.onL.sOwnsAny t.no Hoa.out kk
 have WA:Hid (∀ w',Keeps Z w'->Calls Tryz.prog 84 #[.slice la ln lcap,.int .i64 t.no] w' fun e w''=>e = .returned (.int .i64 za) /\ Keeps w' w''):=fun w' kk=>HS.out.onL.sWaitAt t.no Hz.out kk
 go_cut [26] (fun b wx=>b = .bool bad /\ Keeps Z wx)
 case first =>
  cases oa
  rotate_left
  ·have hr:bad=true:=by rw [<- Hbad.out];rfl
   go_wp2_with (go_at_call 148;refine (OA.out _ (by first | assumption | exact Keeps.refl _ | exact (Keeps.refl _).drew | exact Keeps.drew (by assumption))).mono ?_;rintro e w5 ⟨rfl,k5⟩)
   go_meet
   exact ⟨by rw [hr],k5⟩
  have hr:bad=decide (0 <= za):=by rw [<- Hbad.out];rfl
  go_wp2_with (go_at_call 148;refine (OA.out _ (by first | assumption | exact Keeps.refl _ | exact (Keeps.refl _).drew | exact Keeps.drew (by assumption))).mono ?_;rintro e w5 ⟨rfl,k5⟩)
  have k5':Keeps Z w5:=k5
  go_wp2_with (go_at_call 84;refine (WA.out _ (by first | assumption | exact Keeps.refl _ | exact (Keeps.refl _).drew | exact Keeps.drew (by assumption))).mono ?_;rintro e w6 ⟨rfl,k6⟩)
  go_meet
  exact ⟨by rw [hr],k5.trans k6⟩
 case rest =>
 obtain ⟨rfl,kx⟩:=hcut
 generalize wc=wx at *
 clear OA WA Hbad Hz Hoa
 cases bad
 rotate_left
 ·have HN:Hid (qcx s t=5):=HN0.out
  have AE:=A0.out.keeps kx
  obtain ⟨_,o1,o2⟩:=AE.g.var.box
  dsimp only [syc] at o1
  obtain ⟨_,r1,r2⟩:=AE.r
  go_wp2
  exact AE.ret HN.out (fun h=>absurd h (by decide)) rfl (fun Q D=>by simp [results,Tryz.results85,go_sem,D])
 have AX:Hid (AskR w lo ⟨⟨some ⟨tb,0,none⟩,tn,tcap⟩,⟨la,ln,lcap⟩,⟨ga,gn,gcap⟩,⟨fa,fn,fcap⟩,⟨ra,rn,rcap⟩⟩ vs wx w.heap.size (w.heap.size+1) ⟨⟨some ⟨tb,0,none⟩,tn,tcap⟩,⟨la,ln,lcap⟩,⟨ga,gn,gcap⟩,⟨fa,fn,fcap⟩,⟨ra,rn,rcap⟩⟩ vs s):=A0.out.keeps kx
 have TX:Hid (Blk wx tbx (tc t)):=TB.out.keeps kx
 have hbx:∀ w',Keeps wx w'->∀ j,w'.cell? ⟨w.heap.size,j,none⟩=_:=fun w' kk=>hb0 w' (kx.trans kk)
 have htx:∀ w',Keeps wx w'->∀ j,w'.cell? ⟨tbx,j,none⟩=_:=fun w' kk=>ht0 w' (kx.trans kk)
 clear hb0 ht0
 go_upto_region 4 with fail
 go_cut [37] (fun b wy=>b = .bool lv /\ wy=wx)
 case first =>
  cases d3:(t.cls==1)
  ·have hr:lv=false:=by rw [<- Hlv.out];unfold qei;rw [d3];rfl
   go_wp2
   go_meet
   exact ⟨by rw [hr],rfl⟩
  have hr:lv=decide (s.now < t.due):=by rw [<- Hlv.out];unfold qei;rw [d3];rfl
  go_wp2
  go_meet
  exact ⟨by rw [hr],rfl⟩
 case rest =>
 obtain ⟨rfl,hwy⟩:=hcut
 have hwy2:=hwy.symm
 subst hwy2
 clear Hlv
 cases lv
 ·have HN:Hid (qcx s t=0):=HN0.out
  clear htx
  have hbX:∀ w',Keeps wx w'->∀ j,w'.cell? ⟨w.heap.size,j,none⟩=(syc (s:Sy) ⟨⟨some ⟨tb,0,none⟩,tn,tcap⟩,⟨la,ln,lcap⟩,⟨ga,gn,gcap⟩,⟨fa,fn,fcap⟩,⟨ra,rn,rcap⟩⟩)[j]?:=fun w' kk=>(AX.out.g.var.box.keeps kk).cells
  dsimp only [syc] at hbX
  have TR:Hid (∀ (m:Nat) (x:Tsk),s.tasks[m]?=some x->∀ w',Keeps wx w'->∀ j,j < 14->w'.cell? ⟨tb,m*14+j,none⟩=(tc x)[j]?):=fun m x hm w' kk j hj=>(kk.cells tb _ (AX.out.g.var.own.blkLt (i:=0) (b:=tb) rfl).2).trans ((AX.out.g.var.own.taskCells (rb:=tb) rfl hm).1 j hj)
  go_wp2_with fail
  have kz:Keeps wx (wx.alloc (.cells #[] 43)):=(Keeps.refl _).alloc _
  have own0:OwnT (wx.alloc (.cells #[] 43)) wx.heap.size (.slice (some ⟨wx.heap.size,0,none⟩) 0 0) []:=Own.new 43 14 tc wx (Nat.le_refl _)
  generalize wx.alloc (.cells #[] 43)=W at *
  go_loopw [7,8] (fun v i wr=>∃ (m:Nat) (xs:List Tsk),m <= tn /\ i = .int .i64 m /\ xs.length <= m /\ Hid (xs=(s.tasks.take m).eraseIdx k) /\ Hid (OwnT wr wx.heap.size v xs) /\ Keeps wx wr) (fun _ i _=>tn - (intOf i).toNat)
  case atStart=>exact ⟨0,[],Nat.zero_le _,rfl,Nat.le_refl _,by show _=_;simp,own0,kz⟩
  case round =>
   obtain ⟨m,xs,hm,rfl,hxl,HX,HW,hK⟩:=hrel
   clear own0 kz
   by_cases hlt:m < tn
   ·have hlt':(m:Int) < (tn:Int):=by omega
    obtain ⟨x,hx⟩:=qal (xs:=s.tasks) (k:=m) (by rw [HL.out];exact hlt)
    have r1:∀ w',Keeps wx w'->∀ j,j < 14->w'.cell? ⟨tb,m*14+j,none⟩=(tc x)[j]?:=TR.out m x hx
    have r0:∀ w',Keeps wx w'->w'.cell? ⟨tb,m*14,none⟩=some (.int .i64 x.no):=fun w' kk=>r1 w' kk 0 (by omega)
    have HE:Hid ((s.tasks.take (m+1)).eraseIdx k=if m=k then xs else xs++[x]):=by show _=_;rw [qfK hx,<- HX.out]
    clear hx HX
    by_cases hmk:m=k
    ·have hne:((m:Int) != (k:Int))=false:=by simp [hmk]
     have HX2:Hid (xs=(s.tasks.take (m+1)).eraseIdx k):=by show _=_;rw [HE.out,if_pos hmk]
     clear hmk HE
     go_wp2
     exact ⟨⟨m+1,xs,by omega,by go_num,by omega,HX2,HW,hK⟩,by simp only [intOf];omega⟩
    ·have hne:((m:Int) != (k:Int))=true:=by simp;omega
     have HX2:Hid (xs++[x]=(s.tasks.take (m+1)).eraseIdx k):=by show _=_;rw [HE.out,if_neg hmk]
     clear hmk HE
     go_wp2_with (at_builtin;(refine qbA rfl _ _ 24 rfl wx 43 (.agg (tc Tsk.zero)) 14 112 tc Tryz.underlying24 (by kernel_rfl) rfl (by decide) qao qbs _ xs rfl wr HW.out hK ((Keeps.refl _).alloc _) x _ 1 (Blk.new _ _ _) rfl ?c1 ?c2 ?_))
     case c1=>unfold maxLen;omega
     case c2=>omega
     intro v' w5 own5 k5 _
     have HO5:Hid (OwnT w5 wx.heap.size v' (xs++[x])):=own5
     clear own5 HW
     go_wp2
     exact ⟨⟨m+1,xs++[x],by omega,by go_num,by simp;omega,HX2,HO5,k5⟩,by simp only [intOf];omega⟩
   ·have hlt':decide ((m:Int) < (tn:Int))=false:=by simp;omega
    have HX2:Hid (xs=s.tasks.eraseIdx k):=by
     have h1:=HX.out
     rw [List.take_of_length_le (by have:=HL.out;omega)] at h1
     exact h1
    clear HX
    obtain ⟨a9,c9,e9⟩:=HW.out.form qao
    obtain ⟨n9,Hn9⟩:∃ n,Hid (xs.length=n):=⟨_,rfl⟩
    rw [Hn9.out] at e9
    subst e9
    have AN:Hid (AskR w lo ⟨⟨some ⟨tb,0,none⟩,tn,tcap⟩,⟨la,ln,lcap⟩,⟨ga,gn,gcap⟩,⟨fa,fn,fcap⟩,⟨ra,rn,rcap⟩⟩ vs (wr.setCell ⟨w.heap.size,2,none⟩ (.slice a9 n9 c9)) w.heap.size (w.heap.size+1) ⟨⟨a9,n9,c9⟩,⟨la,ln,lcap⟩,⟨ga,gn,gcap⟩,⟨fa,fn,fcap⟩,⟨ra,rn,rcap⟩⟩ vs { (s:Sy) with tasks:=xs }):=AX.out.tasks hK (x:=⟨a9,n9,c9⟩) HW.out
    have HC:Hid ({ (s:Sy) with tasks:=xs }=qdi s k t):=by show _=_;rw [HC0.out,HX2.out];rfl
    obtain ⟨_,p1,p2⟩:=(AX.out.keeps hK).g.var.box
    dsimp only [syc] at p1
    have hsz:w.heap.size+1≠w.heap.size:=by omega
    have AE:=AN.out
    obtain ⟨_,o1,o2⟩:=AE.g.var.box
    dsimp only [syc] at o1
    obtain ⟨_,r1,r2⟩:=AE.r
    go_wp2
    exact AE.ret HN.out (fun _=>HC.out) rfl (fun Q D=>by simp [results,Tryz.results85,go_sem,D])
 cases g12:(gn==12)
 rotate_left
 ·have HN:Hid (qcx s t=4):=by show _=_;rw [HN0.out,g12];rfl
  have g12':((gn:Int)==12)=true:=by simp at g12 ⊢;omega
  have AE:=AX.out
  obtain ⟨_,o1,o2⟩:=AE.g.var.box
  dsimp only [syc] at o1
  obtain ⟨_,r1,r2⟩:=AE.r
  go_wp2
  exact AE.ret HN.out (fun h=>absurd h (by decide)) rfl (fun Q D=>by simp [results,Tryz.results85,go_sem,D])
 have HN:Hid (qcx s t=0):=by show _=_;rw [HN0.out,g12];rfl
 have g12':((gn:Int)==12)=false:=by simp at g12 ⊢;omega
 go_upto_region 7 with fail
 have f63:s.ghosts.length+1 <= 13:=by rw [HG.out];omega
 go_upto_region 8 with (at_builtin;(refine qc8 rfl _ _ 26 rfl lo 87 (.agg (ghc Gh.zero)) 4 32 ghc Tryz.underlying26 (by kernel_rfl) rfl (by decide) qb5 qel _ s.ghosts rfl (AX.out.g.var.own.g.keeps ((Keeps.refl _).alloc _)) (by have:=AX.out.g.var.lob;have:=AX.out.g.var.box.lt;simp;omega) (qdh t) _ 1 (Blk.new _ _ _) rfl (by unfold maxLen;omega) (by omega) ?_;intro v6 w6 o6 g6 f6;obtain ⟨a6,c6,e6⟩:=o6.form qb5;obtain ⟨m6,Hm6⟩:∃ m,Hid ((s.ghosts++[qdh t]).length=m):=⟨_,rfl⟩;rw [Hm6.out] at e6;subst e6;have AG:=AX.out.ghosts ((Keeps.refl wx).alloc _) (x:=⟨a6,m6,c6⟩) o6 g6 (fun q hq=>(f6 q hq).imp id (fun e=>Nat.le_of_eq e.symm));obtain ⟨_,p1,p2⟩:=(AX.out.g.var.box.keeps ((Keeps.refl wx).alloc _)).grown g6 (fun q e e2=>AX.out.g.var.far 2 (by rw [<- e2];exact e));dsimp only [syc] at p1))
 have AX2:Hid (AskR w lo ⟨⟨some ⟨tb,0,none⟩,tn,tcap⟩,⟨la,ln,lcap⟩,⟨ga,gn,gcap⟩,⟨fa,fn,fcap⟩,⟨ra,rn,rcap⟩⟩ vs (w6.setCell ⟨w.heap.size,4,none⟩ (.slice a6 m6 c6)) w.heap.size (w.heap.size+1) ⟨⟨some ⟨tb,0,none⟩,tn,tcap⟩,⟨la,ln,lcap⟩,⟨a6,m6,c6⟩,⟨fa,fn,fcap⟩,⟨ra,rn,rcap⟩⟩ vs { (s:Sy) with ghosts:=s.ghosts++[qdh t] }):=AG
 clear AG p1 p2 o6 g6 f6 hbx htx
 generalize w6.setCell ⟨w.heap.size,4,none⟩ (.slice a6 m6 c6)=X at *
 have hbX:∀ w',Keeps X w'->∀ j,w'.cell? ⟨w.heap.size,j,none⟩=(syc ({ (s:Sy) with ghosts:=s.ghosts++[qdh t] }:Sy) ⟨⟨some ⟨tb,0,none⟩,tn,tcap⟩,⟨la,ln,lcap⟩,⟨a6,m6,c6⟩,⟨fa,fn,fcap⟩,⟨ra,rn,rcap⟩⟩)[j]?:=fun w' kk=>(AX2.out.g.var.box.keeps kk).cells
 dsimp only [syc] at hbX
 have TR:Hid (∀ (m:Nat) (x:Tsk),s.tasks[m]?=some x->∀ w',Keeps X w'->∀ j,j < 14->w'.cell? ⟨tb,m*14+j,none⟩=(tc x)[j]?):=fun m x hm w' kk j hj=>(kk.cells tb _ (AX2.out.g.var.own.blkLt (i:=0) (b:=tb) rfl).2).trans ((AX2.out.g.var.own.taskCells (rb:=tb) rfl hm).1 j hj)
 go_wp2_with fail
 have kz:Keeps X (X.alloc (.cells #[] 43)):=(Keeps.refl _).alloc _
 have own0:OwnT (X.alloc (.cells #[] 43)) X.heap.size (.slice (some ⟨X.heap.size,0,none⟩) 0 0) []:=Own.new 43 14 tc X (Nat.le_refl _)
 generalize X.alloc (.cells #[] 43)=W at *
 go_loopw [7,8] (fun v i wr=>∃ (m:Nat) (xs:List Tsk),m <= tn /\ i = .int .i64 m /\ xs.length <= m /\ Hid (xs=(s.tasks.take m).eraseIdx k) /\ Hid (OwnT wr X.heap.size v xs) /\ Keeps X wr) (fun _ i _=>tn - (intOf i).toNat)
 case atStart=>exact ⟨0,[],Nat.zero_le _,rfl,Nat.le_refl _,by show _=_;simp,own0,kz⟩
 case round =>
  obtain ⟨m,xs,hm,rfl,hxl,HX,HW,hK⟩:=hrel
  clear own0 kz
  by_cases hlt:m < tn
  ·have hlt':(m:Int) < (tn:Int):=by omega
   obtain ⟨x,hx⟩:=qal (xs:=s.tasks) (k:=m) (by rw [HL.out];exact hlt)
   have r1:∀ w',Keeps X w'->∀ j,j < 14->w'.cell? ⟨tb,m*14+j,none⟩=(tc x)[j]?:=TR.out m x hx
   have r0:∀ w',Keeps X w'->w'.cell? ⟨tb,m*14,none⟩=some (.int .i64 x.no):=fun w' kk=>r1 w' kk 0 (by omega)
   have HE:Hid ((s.tasks.take (m+1)).eraseIdx k=if m=k then xs else xs++[x]):=by show _=_;rw [qfK hx,<- HX.out]
   clear hx HX
   by_cases hmk:m=k
   ·have hne:((m:Int) != (k:Int))=false:=by simp [hmk]
    have HX2:Hid (xs=(s.tasks.take (m+1)).eraseIdx k):=by show _=_;rw [HE.out,if_pos hmk]
    clear hmk HE
    go_wp2
    exact ⟨⟨m+1,xs,by omega,by go_num,by omega,HX2,HW,hK⟩,by simp only [intOf];omega⟩
   ·have hne:((m:Int) != (k:Int))=true:=by simp;omega
    have HX2:Hid (xs++[x]=(s.tasks.take (m+1)).eraseIdx k):=by show _=_;rw [HE.out,if_neg hmk]
    clear hmk HE
    go_wp2_with (at_builtin;(refine qbA rfl _ _ 24 rfl X 43 (.agg (tc Tsk.zero)) 14 112 tc Tryz.underlying24 (by kernel_rfl) rfl (by decide) qao qbs _ xs rfl wr HW.out hK ((Keeps.refl _).alloc _) x _ 1 (Blk.new _ _ _) rfl ?c1 ?c2 ?_))
    case c1=>unfold maxLen;omega
    case c2=>omega
    intro v' w5 own5 k5 _
    have HO5:Hid (OwnT w5 X.heap.size v' (xs++[x])):=own5
    clear own5 HW
    go_wp2
    exact ⟨⟨m+1,xs++[x],by omega,by go_num,by simp;omega,HX2,HO5,k5⟩,by simp only [intOf];omega⟩
  ·have hlt':decide ((m:Int) < (tn:Int))=false:=by simp;omega
   have HX2:Hid (xs=s.tasks.eraseIdx k):=by
    have h1:=HX.out
    rw [List.take_of_length_le (by have:=HL.out;omega)] at h1
    exact h1
   clear HX
   obtain ⟨a9,c9,e9⟩:=HW.out.form qao
   obtain ⟨n9,Hn9⟩:∃ n,Hid (xs.length=n):=⟨_,rfl⟩
   rw [Hn9.out] at e9
   subst e9
   have AN:Hid (AskR w lo ⟨⟨some ⟨tb,0,none⟩,tn,tcap⟩,⟨la,ln,lcap⟩,⟨ga,gn,gcap⟩,⟨fa,fn,fcap⟩,⟨ra,rn,rcap⟩⟩ vs (wr.setCell ⟨w.heap.size,2,none⟩ (.slice a9 n9 c9)) w.heap.size (w.heap.size+1) ⟨⟨a9,n9,c9⟩,⟨la,ln,lcap⟩,⟨a6,m6,c6⟩,⟨fa,fn,fcap⟩,⟨ra,rn,rcap⟩⟩ vs { ({ (s:Sy) with ghosts:=s.ghosts++[qdh t] }:Sy) with tasks:=xs }):=AX2.out.tasks hK (x:=⟨a9,n9,c9⟩) HW.out
   have HC:Hid ({ ({ (s:Sy) with ghosts:=s.ghosts++[qdh t] }:Sy) with tasks:=xs }=qdi s k t):=by show _=_;rw [HC0.out,HX2.out];rfl
   obtain ⟨_,p1,p2⟩:=(AX2.out.keeps hK).g.var.box
   dsimp only [syc] at p1
   have hsz:w.heap.size+1≠w.heap.size:=by omega
   have AE:=AN.out
   obtain ⟨_,o1,o2⟩:=AE.g.var.box
   dsimp only [syc] at o1
   obtain ⟨_,r1,r2⟩:=AE.r
   go_wp2
   exact AE.ret HN.out (fun _=>HC.out) rfl (fun Q D=>by simp [results,Tryz.results85,go_sem,D])
end Go.Proofs.YteagpjlgjfaclaaGreatDoor
namespace Go.Proofs.YteagpjlgjfaclaaGreatDoor
set_option maxRecDepth 100000
open Go.RowKit
attribute [local go_sem] Keeps.refl Keeps.alloc Keeps.drew Keeps.drewN
set_option linter.unusedSimpArgs false in
set_option maxHeartbeats 8000000 in
theorem qh1 {w:World} {lo:Nat} {v:Sv} {vs:List Lv} {s:Sy} (h:OwnS w lo v vs s) (hl:lo <= w.heap.size) (R:SysR s) (cn cp ca cb:Int) (hth:qak s.tasks cn=true) :
  Calls Tryz.prog 39 #[.agg (syc s v),ck ⟨4,cn,cp,ca,cb⟩] w (Did w lo v vs (doN s ⟨4,cn,cp,ca,cb⟩) (doC s ⟨4,cn,cp,ca,cb⟩)):=by
 obtain ⟨⟨ta,tn,tcap⟩,⟨la,ln,lcap⟩,⟨ga,gn,gcap⟩,⟨fa,fn,fcap⟩,⟨ra,rn,rcap⟩⟩:=v
 obtain ⟨k,ek,ht,Hta⟩:=qdl hth
 have Hpa:Hid (qau s.tasks cn=(k:Int)):=ek
 obtain ⟨t,ht⟩:=ht
 have Htt:tAt s.tasks cn=t:=Hta t ht
 have HNt:doN s ⟨4,cn,cp,ca,cb⟩=qcR s ⟨4,cn,cp,ca,cb⟩ t:=by rw [qdm (by rfl) (by rfl) hth,Htt]
 have HCt:doC s ⟨4,cn,cp,ca,cb⟩=qcz s ⟨4,cn,cp,ca,cb⟩ k t:=by rw [qdn (by rfl) (by rfl),ek,Htt,Int.toNat_natCast]
 have hk:k < s.tasks.length:=qaw ht
 obtain ⟨tb,htb⟩:=h.tasksAt hk
 dsimp only at htb
 subst htb
 have HK:Hid (s.tasks[k]?=some t):=ht
 have Hk:Hid (k < s.tasks.length):=hk
 have hkn:(k:Int) < (tn:Int):=by have:=(h.t.row qao).1;dsimp only at this;omega
 have T0:∀ w',Keeps w w'->∀ i,i < 14->w'.cell? ⟨tb,k*14+i,none⟩=(tc t)[i]?:=fun w' kk i hi=>(kk.cells tb _ (h.blkLt (i:=0) (b:=tb) rfl).2).trans ((h.taskCells (rb:=tb) rfl ht).1 i hi)
 clear ek Hta Htt hth
 obtain ⟨A0',C0',kZ⟩:=ask3 h hl ⟨4,cn,cp,ca,cb⟩
 have C0:Hid (Blk _ (w.heap.size+1) (cc ⟨4,cn,cp,ca,cb⟩)):=C0'
 have A0:Hid (AskR w lo _ vs _ w.heap.size (w.heap.size+2) _ vs s):=A0'
 have HS:Hid (SysOn _ _ s):=(h.on (by have:=R.small;omega)).keeps kZ
 clear A0' C0' h
 have TC:∀ w',Keeps _ w'->∀ i,i < 14->w'.cell? ⟨tb,k*14+i,none⟩=(tc t)[i]?:=fun w' kk=>T0 w' (kZ.trans kk)
 have TC0:∀ w',Keeps _ w'->w'.cell? ⟨tb,k*14,none⟩=some (.int .i64 t.no):=fun w' kk=>T0 w' (kZ.trans kk) 0 (by omega)
 clear T0
 go_enter Tryz.func39,Tryz.ntmps39
 go_wp2_with fail
 change Calls _ _ _ (qat w ⟨⟨some ⟨tb,0,none⟩,tn,tcap⟩,⟨la,ln,lcap⟩,⟨ga,gn,gcap⟩,⟨fa,fn,fcap⟩,⟨ra,rn,rcap⟩⟩ s ⟨4,cn,cp,ca,cb⟩) _
 generalize qat w ⟨⟨some ⟨tb,0,none⟩,tn,tcap⟩,⟨la,ln,lcap⟩,⟨ga,gn,gcap⟩,⟨fa,fn,fcap⟩,⟨ra,rn,rcap⟩⟩ s ⟨4,cn,cp,ca,cb⟩=Z at *
 have hb0:∀ w',Keeps Z w'->∀ q,w'.cell? ⟨w.heap.size,q,none⟩=(syc s ⟨⟨some ⟨tb,0,none⟩,tn,tcap⟩,⟨la,ln,lcap⟩,⟨ga,gn,gcap⟩,⟨fa,fn,fcap⟩,⟨ra,rn,rcap⟩⟩)[q]?:=fun w' k=>(A0.out.g.var.box.keeps k).cells
 dsimp only [syc] at hb0
 have hc0:∀ w',Keeps Z w'->∀ q,w'.cell? ⟨w.heap.size+1,q,none⟩=(cc ⟨4,cn,cp,ca,cb⟩)[q]?:=fun w' k=>(C0.out.keeps k).cells
 refine (HS.out.onT.sTaskAt cn Hpa.out (Keeps.refl _)).mono ?_
 rintro e w1 ⟨rfl,k1⟩
 go_upto_region 14 with fail
 have KY:Keeps Z (w1.alloc (.cells (tc t) 43)):=k1.alloc _
 have TB:Hid (Blk (w1.alloc (.cells (tc t) 43)) w1.heap.size (tc t)):=Blk.new _ _ _
 have AY:Hid (AskR w lo _ vs _ w.heap.size (w.heap.size+2) _ vs s):=A0.out.keeps KY
 have SY:Hid (SysOn _ _ s):=HS.out.keeps KY
 change Code.wp _ _ _ _ (w1.alloc (.cells (tc t) 43))
 generalize w1.alloc (.cells (tc t) 43)=Y at *
 generalize w1.heap.size=tbx at *
 have hbY:∀ w',Keeps Y w'->∀ q,w'.cell? ⟨w.heap.size,q,none⟩=_:=fun w' kk=>hb0 w' (KY.trans kk)
 have hcY:∀ w',Keeps Y w'->∀ q,w'.cell? ⟨w.heap.size+1,q,none⟩=_:=fun w' kk=>hc0 w' (KY.trans kk)
 have htY:∀ w',Keeps Y w'->∀ q,w'.cell? ⟨tbx,q,none⟩=(tc t)[q]?:=fun w' kk=>(TB.out.keeps kk).cells
 clear hb0 hc0 TC TC0 A0 HS k1
 obtain ⟨za,Hz⟩:∃ z,Hid (qaJ s.locks cn=z):=⟨_,rfl⟩
 have e1:(!decide (za < 0))=decide (0 <= za):=by rw [Bool.eq_iff_iff];simp
 have HN0:Hid (doN s ⟨4,cn,cp,ca,cb⟩=if t.st==2||decide (0 <= za) then 5 else 0):=by
  show _=_
  rw [HNt,<- e1,<- Hz.out]
  rfl
 have HC:Hid ({ (s:Sy) with tasks:=s.tasks.set k { t with st:=2 } }=doC s ⟨4,cn,cp,ca,cb⟩):=by show _=_;rw [HCt];rfl
 clear HNt HCt e1
 have WA:Hid (∀ w',Keeps Y w'->Calls Tryz.prog 84 #[.slice la ln lcap,.int .i64 cn] w' fun e w''=>e = .returned (.int .i64 za) /\ Keeps w' w''):=fun w' kk=>SY.out.onL.sWaitAt cn Hz.out kk
 cases d1:(t.st==2)
 rotate_left
 ·have HN:Hid (doN s ⟨4,cn,cp,ca,cb⟩=5):=by show _=_;rw [HN0.out,d1];rfl
  have AE:=AY.out
  obtain ⟨_,o1,o2⟩:=AE.g.var.box
  dsimp only [syc] at o1
  obtain ⟨_,r1,r2⟩:=AE.r
  go_wp2
  exact AE.ret HN.out (fun h=>absurd h (by decide)) rfl (fun Q D=>by simp [results,Tryz.results39,go_sem,D])
 go_upto_if 66 with (go_at_call 84;refine (WA.out _ (Keeps.refl _)).mono ?_;rintro e w6 ⟨rfl,k6⟩)
 cases d2:decide (0 <= za)
 rotate_left
 ·have HN:Hid (doN s ⟨4,cn,cp,ca,cb⟩=5):=by show _=_;rw [HN0.out,d1,d2];rfl
  have AE:=AY.out.keeps k6
  obtain ⟨_,o1,o2⟩:=AE.g.var.box
  dsimp only [syc] at o1
  obtain ⟨_,r1,r2⟩:=AE.r
  go_wp2
  exact AE.ret HN.out (fun h=>absurd h (by decide)) rfl (fun Q D=>by simp [results,Tryz.results39,go_sem,D])
 have HN:Hid (doN s ⟨4,cn,cp,ca,cb⟩=0):=by show _=_;rw [HN0.out,d1,d2];rfl
 have AS:=AY.out.keeps k6
 obtain ⟨z1,z2⟩:=AS.g.var.own.taskCells (rb:=tb) rfl (k:=k) HK.out
 have zc1:w6.cell? ⟨tb,k*14+3,none⟩=(tc t)[3]?:=z1 3 (by omega)
 have hor:tb≠w.heap.size:=AS.neT rfl
 have hrr:tb≠w.heap.size+2:=AS.neR rfl
 obtain ⟨_,p1,p2⟩:=AS.g.var.box
 dsimp only [syc] at p1
 obtain ⟨_,q1,q2⟩:=AS.r
 have AN:Hid (AskR w lo _ vs (w6.setCell ⟨tb,k*14+3,none⟩ (.int .i64 2)) w.heap.size (w.heap.size+2) _ vs { (s:Sy) with tasks:=s.tasks.set k { t with st:=2 } }):=AS.taskCell (tb:=tb) rfl HK.out (y:={ t with st:=2 }) (j:=3) (by omega) rfl
 clear z1
 have AE:=AN.out
 obtain ⟨_,o1,o2⟩:=AE.g.var.box
 dsimp only [syc] at o1
 obtain ⟨_,r1,r2⟩:=AE.r
 go_wp2
 exact AE.ret HN.out (fun _=>HC.out) rfl (fun Q D=>by simp [results,Tryz.results39,go_sem,D])
set_option linter.unusedSimpArgs false in
set_option maxHeartbeats 8000000 in
theorem qh2 {w:World} {lo:Nat} {v:Sv} {vs:List Lv} {s:Sy} (h:OwnS w lo v vs s) (hl:lo <= w.heap.size) (R:SysR s) (cn cp ca cb:Int) (hth:qak s.tasks cn=true) :
  Calls Tryz.prog 39 #[.agg (syc s v),ck ⟨5,cn,cp,ca,cb⟩] w (Did w lo v vs (doN s ⟨5,cn,cp,ca,cb⟩) (doC s ⟨5,cn,cp,ca,cb⟩)):=by
 obtain ⟨⟨ta,tn,tcap⟩,⟨la,ln,lcap⟩,⟨ga,gn,gcap⟩,⟨fa,fn,fcap⟩,⟨ra,rn,rcap⟩⟩:=v
 obtain ⟨k,ek,ht,Hta⟩:=qdl hth
 have Hpa:Hid (qau s.tasks cn=(k:Int)):=ek
 obtain ⟨t,ht⟩:=ht
 have Htt:tAt s.tasks cn=t:=Hta t ht
 have HNt:doN s ⟨5,cn,cp,ca,cb⟩=qcR s ⟨5,cn,cp,ca,cb⟩ t:=by rw [qdm (by rfl) (by rfl) hth,Htt]
 have HCt:doC s ⟨5,cn,cp,ca,cb⟩=qcz s ⟨5,cn,cp,ca,cb⟩ k t:=by rw [qdn (by rfl) (by rfl),ek,Htt,Int.toNat_natCast]
 have hk:k < s.tasks.length:=qaw ht
 obtain ⟨tb,htb⟩:=h.tasksAt hk
 dsimp only at htb
 subst htb
 have HK:Hid (s.tasks[k]?=some t):=ht
 have Hk:Hid (k < s.tasks.length):=hk
 have hkn:(k:Int) < (tn:Int):=by have:=(h.t.row qao).1;dsimp only at this;omega
 have T0:∀ w',Keeps w w'->∀ i,i < 14->w'.cell? ⟨tb,k*14+i,none⟩=(tc t)[i]?:=fun w' kk i hi=>(kk.cells tb _ (h.blkLt (i:=0) (b:=tb) rfl).2).trans ((h.taskCells (rb:=tb) rfl ht).1 i hi)
 clear ek Hta Htt hth
 obtain ⟨A0',C0',kZ⟩:=ask3 h hl ⟨5,cn,cp,ca,cb⟩
 have C0:Hid (Blk _ (w.heap.size+1) (cc ⟨5,cn,cp,ca,cb⟩)):=C0'
 have A0:Hid (AskR w lo _ vs _ w.heap.size (w.heap.size+2) _ vs s):=A0'
 have HS:Hid (SysOn _ _ s):=(h.on (by have:=R.small;omega)).keeps kZ
 clear A0' C0' h
 have TC:∀ w',Keeps _ w'->∀ i,i < 14->w'.cell? ⟨tb,k*14+i,none⟩=(tc t)[i]?:=fun w' kk=>T0 w' (kZ.trans kk)
 have TC0:∀ w',Keeps _ w'->w'.cell? ⟨tb,k*14,none⟩=some (.int .i64 t.no):=fun w' kk=>T0 w' (kZ.trans kk) 0 (by omega)
 clear T0
 go_enter Tryz.func39,Tryz.ntmps39
 go_wp2_with fail
 change Calls _ _ _ (qat w ⟨⟨some ⟨tb,0,none⟩,tn,tcap⟩,⟨la,ln,lcap⟩,⟨ga,gn,gcap⟩,⟨fa,fn,fcap⟩,⟨ra,rn,rcap⟩⟩ s ⟨5,cn,cp,ca,cb⟩) _
 generalize qat w ⟨⟨some ⟨tb,0,none⟩,tn,tcap⟩,⟨la,ln,lcap⟩,⟨ga,gn,gcap⟩,⟨fa,fn,fcap⟩,⟨ra,rn,rcap⟩⟩ s ⟨5,cn,cp,ca,cb⟩=Z at *
 have hb0:∀ w',Keeps Z w'->∀ q,w'.cell? ⟨w.heap.size,q,none⟩=(syc s ⟨⟨some ⟨tb,0,none⟩,tn,tcap⟩,⟨la,ln,lcap⟩,⟨ga,gn,gcap⟩,⟨fa,fn,fcap⟩,⟨ra,rn,rcap⟩⟩)[q]?:=fun w' k=>(A0.out.g.var.box.keeps k).cells
 dsimp only [syc] at hb0
 have hc0:∀ w',Keeps Z w'->∀ q,w'.cell? ⟨w.heap.size+1,q,none⟩=(cc ⟨5,cn,cp,ca,cb⟩)[q]?:=fun w' k=>(C0.out.keeps k).cells
 refine (HS.out.onT.sTaskAt cn Hpa.out (Keeps.refl _)).mono ?_
 rintro e w1 ⟨rfl,k1⟩
 go_upto_region 14 with fail
 have KY:Keeps Z (w1.alloc (.cells (tc t) 43)):=k1.alloc _
 have TB:Hid (Blk (w1.alloc (.cells (tc t) 43)) w1.heap.size (tc t)):=Blk.new _ _ _
 have AY:Hid (AskR w lo _ vs _ w.heap.size (w.heap.size+2) _ vs s):=A0.out.keeps KY
 have SY:Hid (SysOn _ _ s):=HS.out.keeps KY
 change Code.wp _ _ _ _ (w1.alloc (.cells (tc t) 43))
 generalize w1.alloc (.cells (tc t) 43)=Y at *
 generalize w1.heap.size=tbx at *
 have hbY:∀ w',Keeps Y w'->∀ q,w'.cell? ⟨w.heap.size,q,none⟩=_:=fun w' kk=>hb0 w' (KY.trans kk)
 have hcY:∀ w',Keeps Y w'->∀ q,w'.cell? ⟨w.heap.size+1,q,none⟩=_:=fun w' kk=>hc0 w' (KY.trans kk)
 have htY:∀ w',Keeps Y w'->∀ q,w'.cell? ⟨tbx,q,none⟩=(tc t)[q]?:=fun w' kk=>(TB.out.keeps kk).cells
 clear hb0 hc0 TC TC0 A0 HS k1
 have HN0:Hid (doN s ⟨5,cn,cp,ca,cb⟩=if t.st != 2 then 5 else 0):=by show _=_;rw [HNt];rfl
 have HC:Hid ({ (s:Sy) with tasks:=s.tasks.set k { t with st:=1 } }=doC s ⟨5,cn,cp,ca,cb⟩):=by show _=_;rw [HCt];rfl
 clear HNt HCt
 cases d1:(t.st != 2)
 rotate_left
 ·have HN:Hid (doN s ⟨5,cn,cp,ca,cb⟩=5):=by show _=_;rw [HN0.out,d1];rfl
  have AE:=AY.out
  obtain ⟨_,o1,o2⟩:=AE.g.var.box
  dsimp only [syc] at o1
  obtain ⟨_,r1,r2⟩:=AE.r
  go_wp2
  exact AE.ret HN.out (fun h=>absurd h (by decide)) rfl (fun Q D=>by simp [results,Tryz.results39,go_sem,D])
 have HN:Hid (doN s ⟨5,cn,cp,ca,cb⟩=0):=by show _=_;rw [HN0.out,d1];rfl
 have AS:=AY.out
 obtain ⟨z1,z2⟩:=AS.g.var.own.taskCells (rb:=tb) rfl (k:=k) HK.out
 have zc1:Y.cell? ⟨tb,k*14+3,none⟩=(tc t)[3]?:=z1 3 (by omega)
 have hor:tb≠w.heap.size:=AS.neT rfl
 have hrr:tb≠w.heap.size+2:=AS.neR rfl
 obtain ⟨_,p1,p2⟩:=AS.g.var.box
 dsimp only [syc] at p1
 obtain ⟨_,q1,q2⟩:=AS.r
 have AN:Hid (AskR w lo _ vs (Y.setCell ⟨tb,k*14+3,none⟩ (.int .i64 1)) w.heap.size (w.heap.size+2) _ vs { (s:Sy) with tasks:=s.tasks.set k { t with st:=1 } }):=AS.taskCell (tb:=tb) rfl HK.out (y:={ t with st:=1 }) (j:=3) (by omega) rfl
 clear z1
 have AE:=AN.out
 obtain ⟨_,o1,o2⟩:=AE.g.var.box
 dsimp only [syc] at o1
 obtain ⟨_,r1,r2⟩:=AE.r
 go_wp2
 exact AE.ret HN.out (fun _=>HC.out) rfl (fun Q D=>by simp [results,Tryz.results39,go_sem,D])
set_option linter.unusedSimpArgs false in
set_option maxHeartbeats 8000000 in
theorem qh3 {w:World} {lo:Nat} {v:Sv} {vs:List Lv} {s:Sy} (h:OwnS w lo v vs s) (hl:lo <= w.heap.size) (R:SysR s) (cn cp ca cb:Int) (hth:qak s.tasks cn=true) :
  Calls Tryz.prog 39 #[.agg (syc s v),ck ⟨9,cn,cp,ca,cb⟩] w (Did w lo v vs (doN s ⟨9,cn,cp,ca,cb⟩) (doC s ⟨9,cn,cp,ca,cb⟩)):=by
 obtain ⟨⟨ta,tn,tcap⟩,⟨la,ln,lcap⟩,⟨ga,gn,gcap⟩,⟨fa,fn,fcap⟩,⟨ra,rn,rcap⟩⟩:=v
 obtain ⟨k,ek,ht,Hta⟩:=qdl hth
 have Hpa:Hid (qau s.tasks cn=(k:Int)):=ek
 obtain ⟨t,ht⟩:=ht
 have Htt:tAt s.tasks cn=t:=Hta t ht
 have HNt:doN s ⟨9,cn,cp,ca,cb⟩=qcR s ⟨9,cn,cp,ca,cb⟩ t:=by rw [qdm (by rfl) (by rfl) hth,Htt]
 have HCt:doC s ⟨9,cn,cp,ca,cb⟩=qcz s ⟨9,cn,cp,ca,cb⟩ k t:=by rw [qdn (by rfl) (by rfl),ek,Htt,Int.toNat_natCast]
 have hk:k < s.tasks.length:=qaw ht
 obtain ⟨tb,htb⟩:=h.tasksAt hk
 dsimp only at htb
 subst htb
 have HK:Hid (s.tasks[k]?=some t):=ht
 have Hk:Hid (k < s.tasks.length):=hk
 have hkn:(k:Int) < (tn:Int):=by have:=(h.t.row qao).1;dsimp only at this;omega
 have T0:∀ w',Keeps w w'->∀ i,i < 14->w'.cell? ⟨tb,k*14+i,none⟩=(tc t)[i]?:=fun w' kk i hi=>(kk.cells tb _ (h.blkLt (i:=0) (b:=tb) rfl).2).trans ((h.taskCells (rb:=tb) rfl ht).1 i hi)
 clear ek Hta Htt hth
 obtain ⟨A0',C0',kZ⟩:=ask3 h hl ⟨9,cn,cp,ca,cb⟩
 have C0:Hid (Blk _ (w.heap.size+1) (cc ⟨9,cn,cp,ca,cb⟩)):=C0'
 have A0:Hid (AskR w lo _ vs _ w.heap.size (w.heap.size+2) _ vs s):=A0'
 have HS:Hid (SysOn _ _ s):=(h.on (by have:=R.small;omega)).keeps kZ
 clear A0' C0' h
 have TC:∀ w',Keeps _ w'->∀ i,i < 14->w'.cell? ⟨tb,k*14+i,none⟩=(tc t)[i]?:=fun w' kk=>T0 w' (kZ.trans kk)
 have TC0:∀ w',Keeps _ w'->w'.cell? ⟨tb,k*14,none⟩=some (.int .i64 t.no):=fun w' kk=>T0 w' (kZ.trans kk) 0 (by omega)
 clear T0
 go_enter Tryz.func39,Tryz.ntmps39
 go_wp2_with fail
 change Calls _ _ _ (qat w ⟨⟨some ⟨tb,0,none⟩,tn,tcap⟩,⟨la,ln,lcap⟩,⟨ga,gn,gcap⟩,⟨fa,fn,fcap⟩,⟨ra,rn,rcap⟩⟩ s ⟨9,cn,cp,ca,cb⟩) _
 generalize qat w ⟨⟨some ⟨tb,0,none⟩,tn,tcap⟩,⟨la,ln,lcap⟩,⟨ga,gn,gcap⟩,⟨fa,fn,fcap⟩,⟨ra,rn,rcap⟩⟩ s ⟨9,cn,cp,ca,cb⟩=Z at *
 have hb0:∀ w',Keeps Z w'->∀ q,w'.cell? ⟨w.heap.size,q,none⟩=(syc s ⟨⟨some ⟨tb,0,none⟩,tn,tcap⟩,⟨la,ln,lcap⟩,⟨ga,gn,gcap⟩,⟨fa,fn,fcap⟩,⟨ra,rn,rcap⟩⟩)[q]?:=fun w' k=>(A0.out.g.var.box.keeps k).cells
 dsimp only [syc] at hb0
 have hc0:∀ w',Keeps Z w'->∀ q,w'.cell? ⟨w.heap.size+1,q,none⟩=(cc ⟨9,cn,cp,ca,cb⟩)[q]?:=fun w' k=>(C0.out.keeps k).cells
 refine (HS.out.onT.sTaskAt cn Hpa.out (Keeps.refl _)).mono ?_
 rintro e w1 ⟨rfl,k1⟩
 go_upto_region 14 with fail
 have KY:Keeps Z (w1.alloc (.cells (tc t) 43)):=k1.alloc _
 have TB:Hid (Blk (w1.alloc (.cells (tc t) 43)) w1.heap.size (tc t)):=Blk.new _ _ _
 have AY:Hid (AskR w lo _ vs _ w.heap.size (w.heap.size+2) _ vs s):=A0.out.keeps KY
 have SY:Hid (SysOn _ _ s):=HS.out.keeps KY
 change Code.wp _ _ _ _ (w1.alloc (.cells (tc t) 43))
 generalize w1.alloc (.cells (tc t) 43)=Y at *
 generalize w1.heap.size=tbx at *
 have hbY:∀ w',Keeps Y w'->∀ q,w'.cell? ⟨w.heap.size,q,none⟩=_:=fun w' kk=>hb0 w' (KY.trans kk)
 have hcY:∀ w',Keeps Y w'->∀ q,w'.cell? ⟨w.heap.size+1,q,none⟩=_:=fun w' kk=>hc0 w' (KY.trans kk)
 have htY:∀ w',Keeps Y w'->∀ q,w'.cell? ⟨tbx,q,none⟩=(tc t)[q]?:=fun w' kk=>(TB.out.keeps kk).cells
 clear hb0 hc0 TC TC0 A0 HS k1
 have HN0:Hid (doN s ⟨9,cn,cp,ca,cb⟩=if t.cls != 3 then 5 else if !inB ca (-4) 4 then 1 else 0):=by show _=_;rw [HNt];rfl
 have HC:Hid ({ (s:Sy) with tasks:=s.tasks.set k { t with nice:=ca } }=doC s ⟨9,cn,cp,ca,cb⟩):=by show _=_;rw [HCt];rfl
 clear HNt HCt
 cases d1:(t.cls != 3)
 rotate_left
 ·have HN:Hid (doN s ⟨9,cn,cp,ca,cb⟩=5):=by show _=_;rw [HN0.out,d1];rfl
  have AE:=AY.out
  obtain ⟨_,o1,o2⟩:=AE.g.var.box
  dsimp only [syc] at o1
  obtain ⟨_,r1,r2⟩:=AE.r
  go_wp2
  exact AE.ret HN.out (fun h=>absurd h (by decide)) rfl (fun Q D=>by simp [results,Tryz.results39,go_sem,D])
 go_upto_if 116 with (go_at_call 88;refine (qbK _ _).mono ?_;rintro e w' ⟨rfl,hw'⟩;have hw2:=hw'.symm;subst hw2)
 cases d2:inB ca (-4) 4
 ·have HN:Hid (doN s ⟨9,cn,cp,ca,cb⟩=1):=by show _=_;rw [HN0.out,d1,d2];rfl
  have AE:=AY.out
  obtain ⟨_,o1,o2⟩:=AE.g.var.box
  dsimp only [syc] at o1
  obtain ⟨_,r1,r2⟩:=AE.r
  go_wp2
  exact AE.ret HN.out (fun h=>absurd h (by decide)) rfl (fun Q D=>by simp [results,Tryz.results39,go_sem,D])
 have HN:Hid (doN s ⟨9,cn,cp,ca,cb⟩=0):=by show _=_;rw [HN0.out,d1,d2];rfl
 have AS:=AY.out
 obtain ⟨z1,z2⟩:=AS.g.var.own.taskCells (rb:=tb) rfl (k:=k) HK.out
 have zc1:Y.cell? ⟨tb,k*14+12,none⟩=(tc t)[12]?:=z1 12 (by omega)
 have hor:tb≠w.heap.size:=AS.neT rfl
 have hrr:tb≠w.heap.size+2:=AS.neR rfl
 obtain ⟨_,p1,p2⟩:=AS.g.var.box
 dsimp only [syc] at p1
 obtain ⟨_,q1,q2⟩:=AS.r
 have AN:Hid (AskR w lo _ vs (Y.setCell ⟨tb,k*14+12,none⟩ (.int .i64 ca)) w.heap.size (w.heap.size+2) _ vs { (s:Sy) with tasks:=s.tasks.set k { t with nice:=ca } }):=AS.taskCell (tb:=tb) rfl HK.out (y:={ t with nice:=ca }) (j:=12) (by omega) rfl
 clear z1
 have AE:=AN.out
 obtain ⟨_,o1,o2⟩:=AE.g.var.box
 dsimp only [syc] at o1
 obtain ⟨_,r1,r2⟩:=AE.r
 go_wp2
 exact AE.ret HN.out (fun _=>HC.out) rfl (fun Q D=>by simp [results,Tryz.results39,go_sem,D])
end Go.Proofs.YteagpjlgjfaclaaGreatDoor
