/-
  Ticks: the model's tick.
-/
import Derived.Test.YteagpjlgjfaclaaGreatDoorSysCopy
import Derived.Test.YteagpjlgjfaclaaGreatDoorSysNewS
import Derived.Test.YteagpjlgjfaclaaGreatDoorSysWake
import Derived.Test.YteagpjlgjfaclaaGreatDoorSysTurn
import Derived.Test.YteagpjlgjfaclaaGreatDoorSysLocks
import Derived.Test.YteagpjlgjfaclaaGreatDoorLoneLeaves
import Derived.Test.YteagpjlgjfaclaaGreatDoorPickPure
import Derived.Deep.CutBlock
import Derived.Deep.DeepCutAuto
namespace Go.Proofs.YteagpjlgjfaclaaGreatDoor
set_option maxRecDepth 100000
open Go.RowKit
attribute [local go_sem] aa.refl aa.alloc aa.drew aa.drewN
set_option linter.unusedSimpArgs false in
set_option maxHeartbeats 20000000 in
theorem Og {w:World} {v:Sv} {s:Sy} (h:aA w v s) :
  Calls Tryz.prog 146 #[.agg (ae s v)] w fun e w'=>∃ v' vs',e = .returned (.tuple #[.agg (ae (dW s) v'),.bool (iI s)]) /\ ay w' w.heap.size v' vs' (dW s) /\ aa w w':=by
 obtain ⟨⟨ta,tn,ak⟩,⟨la,ln,aj⟩,⟨ga,gn,ao⟩,⟨fa,fn,aq⟩,⟨ra,rn,au⟩⟩:=v
 have Hn:Hid (s.tasks.length=tn):=h.lay.tl
 have xP:Hid (s.ah.length=gn):=h.lay.gl
 have Hrl:Hid (s.trace.length=rn):=h.lay.rl
 have kZ:aa w ((w.alloc (.cells (ae s ⟨⟨ta,tn,ak⟩,⟨la,ln,aj⟩,⟨ga,gn,ao⟩,⟨fa,fn,aq⟩,⟨ra,rn,au⟩⟩) 30)).alloc (.cells zc 30)):=((aa.refl w).alloc _).alloc _
 have B0:Hid (ai ((w.alloc (.cells (ae s ⟨⟨ta,tn,ak⟩,⟨la,ln,aj⟩,⟨ga,gn,ao⟩,⟨fa,fn,aq⟩,⟨ra,rn,au⟩⟩) 30)).alloc (.cells zc 30)) w.heap.size (ae s ⟨⟨ta,tn,ak⟩,⟨la,ln,aj⟩,⟨ga,gn,ao⟩,⟨fa,fn,aq⟩,⟨ra,rn,au⟩⟩)):=(ai.new _ _ _).alloc _
 have R0:Hid (ai ((w.alloc (.cells (ae s ⟨⟨ta,tn,ak⟩,⟨la,ln,aj⟩,⟨ga,gn,ao⟩,⟨fa,fn,aq⟩,⟨ra,rn,au⟩⟩) 30)).alloc (.cells zc 30)) (w.heap.size+1) zc):=by
  have:=ai.new (w.alloc (.cells (ae s ⟨⟨ta,tn,ak⟩,⟨la,ln,aj⟩,⟨ga,gn,ao⟩,⟨fa,fn,aq⟩,⟨ra,rn,au⟩⟩) 30)) zc 30
  show ai _ _ _
  simpa using this
 have hz:Hid (((w.alloc (.cells (ae s ⟨⟨ta,tn,ak⟩,⟨la,ln,aj⟩,⟨ga,gn,ao⟩,⟨fa,fn,aq⟩,⟨ra,rn,au⟩⟩) 30)).alloc (.cells zc 30)).heap.size=w.heap.size+2):=by show _=_;simp
 have HS:Hid (aA ((w.alloc (.cells (ae s ⟨⟨ta,tn,ak⟩,⟨la,ln,aj⟩,⟨ga,gn,ao⟩,⟨fa,fn,aq⟩,⟨ra,rn,au⟩⟩) 30)).alloc (.cells zc 30)) ⟨⟨ta,tn,ak⟩,⟨la,ln,aj⟩,⟨ga,gn,ao⟩,⟨fa,fn,aq⟩,⟨ra,rn,au⟩⟩ s):=h.keeps kZ
 clear h
 go_enter Tryz.func146,Tryz.ntmps146
 go_wp2_with fail
 change Calls _ _ _ ((w.alloc (.cells (ae s ⟨⟨ta,tn,ak⟩,⟨la,ln,aj⟩,⟨ga,gn,ao⟩,⟨fa,fn,aq⟩,⟨ra,rn,au⟩⟩) 30)).alloc (.cells zc 30)) _
 generalize (w.alloc (.cells (ae s ⟨⟨ta,tn,ak⟩,⟨la,ln,aj⟩,⟨ga,gn,ao⟩,⟨fa,fn,aq⟩,⟨ra,rn,au⟩⟩) 30)).alloc (.cells zc 30)=Z at *
 refine (tj HS.out).mono ?_
 rintro e w1 ⟨rfl,k1⟩
 have hb0:∀ w',aa Z w'->∀ j,w'.cell? ⟨w.heap.size,j,none⟩=(ae s ⟨⟨ta,tn,ak⟩,⟨la,ln,aj⟩,⟨ga,gn,ao⟩,⟨fa,fn,aq⟩,⟨ra,rn,au⟩⟩)[j]?:=fun w' k=>(B0.out.keeps k).cells
 dsimp only [ae] at hb0
 cases hb:bf s
 ·have jJ:Hid (iI s=false):=by show _=_;unfold iI;rw [hb];rfl
  have HT:Hid (dW s=Sy.zero):=by show _=_;unfold dW;rw [jJ.out,hb];rfl
  obtain ⟨_,r1,r2⟩:=R0.out.keeps k1
  go_wp2
  have D:=(R0.out.keeps k1).putC zc.toList rfl
  have KQ:=aa.putC (b:=w.heap.size+1) (by omega) zc.toList 0 (kZ.trans k1)
  change bodyPost _ _ _ _ _ (putC w1 (w.heap.size+1) 0 zc.toList)
  generalize putC w1 (w.heap.size+1) 0 zc.toList=Q at D KQ ⊢
  exact bodyPost_ret (v := .tuple #[.agg zc,.bool false]) (by simp [results,Tryz.results146,go_sem,D.cells]) rfl (by rw [HT.out,jJ.out];first | exact ⟨Sv.zero,[],rfl,ay.nothing _ _,KQ⟩ | exact ⟨Sv.zero,rfl,⟨[],ay.nothing _ _⟩,KQ⟩)
 have R:=kp.1 hb
 have hsm:bV s <= 1500:=R.small
 obtain ⟨hn0,hn1⟩:=R.now
 obtain ⟨hc0,hc1⟩:=R.az
 obtain ⟨hq0,hq1⟩:=R.seq
 obtain ⟨hm0,hm1⟩:=R.missed
 have htr:=R.trace
 have HR:Hid (cV s):=R
 clear R
 have hrn:rn <= 400:=by rw [<- Hrl.out];exact htr
 have hgn:gn <= 12:=by rw [<- xP.out];exact HR.out.few.2.2.1
 have htn:tn <= 12:=by rw [<- Hn.out];exact HR.out.few.1
 go_wp2_with fail
 refine (pK (HS.out.keeps k1)).mono ?_
 rintro e w2 ⟨vo,cQ,rfl,o2,k2⟩
 obtain ⟨⟨cy,bY,aB⟩,⟨bq,br,aC⟩,⟨cz,cB,aL⟩,⟨bu,fn',aD⟩,⟨bz,bA,aE⟩⟩:=vo
 have O2:Hid (ay w2 w1.heap.size ⟨⟨cy,bY,aB⟩,⟨bq,br,aC⟩,⟨cz,cB,aL⟩,⟨bu,fn',aD⟩,⟨bz,bA,aE⟩⟩ cQ s):=o2
 have mf:Hid (aa Z w2):=k1.trans k2
 have hZ1:Hid (Z.heap.size <= w1.heap.size):=k1.size
 have mc:Hid (s.tasks.length=bY):=(o2.t.row dC).1
 have sn:bY <= 12:=by rw [<- mc.out];exact HR.out.few.1
 have xQ:Hid (s.ax.length=fn'):=(o2.f.row fW).1
 have hfn':fn' <= 4:=by rw [<- xQ.out];exact HR.out.few.2.2.2
 have g0:=aP.start o2 k2.size
 clear o2
 go_upto_region 4 with fail
 change Code.wp _ _ _ _ (w2.alloc (.cells (ae s ⟨⟨cy,bY,aB⟩,⟨bq,br,aC⟩,⟨cz,cB,aL⟩,⟨bu,fn',aD⟩,⟨bz,bA,aE⟩⟩) 30))
 have fj:Hid (w2.heap.size=w2.heap.size):=rfl
 have K0:aa Z (w2.alloc (.cells (ae s ⟨⟨cy,bY,aB⟩,⟨bq,br,aC⟩,⟨cz,cB,aL⟩,⟨bu,fn',aD⟩,⟨bz,bA,aE⟩⟩) 30)):=mf.out.alloc _
 generalize w2.alloc (.cells (ae s ⟨⟨cy,bY,aB⟩,⟨bq,br,aC⟩,⟨cz,cB,aL⟩,⟨bu,fn',aD⟩,⟨bz,bA,aE⟩⟩) 30)=X0 at *
 generalize w2.heap.size=ob at *
 have G0:Hid (aP w2 w1.heap.size ⟨⟨cy,bY,aB⟩,⟨bq,br,aC⟩,⟨cz,cB,aL⟩,⟨bu,fn',aD⟩,⟨bz,bA,aE⟩⟩ cQ X0 ob ⟨⟨cy,bY,aB⟩,⟨bq,br,aC⟩,⟨cz,cB,aL⟩,⟨bu,fn',aD⟩,⟨bz,bA,aE⟩⟩ cQ s):=g0
 clear g0 k1 k2 fj
 have DS:IntKind.i64.wrap ((rn:Int)+s.az)=(rn:Int)+s.az:=Go.IntWalk.i64_in _ (by omega)
 obtain ⟨tb,jJ⟩:∃ b,Hid (iI s=b):=⟨_,rfl⟩
 go_cut [32] (fun c wx=>c = .bool (!tb) /\ wx=X0)
 case first =>
  cases c1:(s.now==100000)
  rotate_left
  ·have hr:tb=false:=by rw [<- jJ.out];unfold iI;rw [hb,c1];rfl
   go_wp2
   go_meet
   exact ⟨by rw [hr];rfl,rfl⟩
  cases c2:decide (900000 < s.seq)
  rotate_left
  ·have hr:tb=false:=by rw [<- jJ.out];unfold iI;rw [hb,c1,c2];rfl
   have c2':900000 < s.seq:=by simpa using c2
   clear c2
   go_wp2
   go_meet
   exact ⟨by rw [hr];rfl,rfl⟩
  have hr:tb = !decide (400 < (rn:Int)+s.az):=by rw [<- jJ.out];unfold iI;rw [hb,c1,c2,Hrl.out];rfl
  have c2':¬ 900000 < s.seq:=by simpa using c2
  go_wp2
  go_meet
  exact ⟨by rw [hr,Bool.not_not],rfl⟩
 case rest =>
 obtain ⟨rfl,hwc⟩:=hcut
 have xR:=hwc.symm
 subst xR
 cases tb
 ·clear DS
  have HT:Hid (dW s=s):=by show _=_;unfold dW;rw [jJ.out,hb];rfl
  have KX:aa Z X0:=G0.out.eP O2.out mf.out hZ1.out
  obtain ⟨_,o1,o2⟩:=G0.out.var.box
  dsimp only [ae] at o1
  obtain ⟨_,r1,r2⟩:=R0.out.keeps KX
  go_wp2
  have D:=(R0.out.keeps KX).putC (ae (s:Sy) ⟨⟨cy,bY,aB⟩,⟨bq,br,aC⟩,⟨cz,cB,aL⟩,⟨bu,fn',aD⟩,⟨bz,bA,aE⟩⟩).toList rfl
  have KQ:=aa.putC (b:=w.heap.size+1) (by omega) (ae (s:Sy) ⟨⟨cy,bY,aB⟩,⟨bq,br,aC⟩,⟨cz,cB,aL⟩,⟨bu,fn',aD⟩,⟨bz,bA,aE⟩⟩).toList 0 (kZ.trans KX)
  have SQ:ay (putC X0 (w.heap.size+1) 0 (ae (s:Sy) ⟨⟨cy,bY,aB⟩,⟨bq,br,aC⟩,⟨cz,cB,aL⟩,⟨bu,fn',aD⟩,⟨bz,bA,aE⟩⟩).toList) w.heap.size ⟨⟨cy,bY,aB⟩,⟨bq,br,aC⟩,⟨cz,cB,aL⟩,⟨bu,fn',aD⟩,⟨bz,bA,aE⟩⟩ cQ (s):=(ay.aU (c:=w.heap.size+1) (fun i hi=>by have:=(G0.out.var.own.aG hi).1;have:=hz.out;have:=hZ1.out;omega) _ _ G0.out.var.own).base (by have:=hz.out;have:=hZ1.out;omega)
  change bodyPost _ _ _ _ _ (putC X0 (w.heap.size+1) 0 (ae (s:Sy) ⟨⟨cy,bY,aB⟩,⟨bq,br,aC⟩,⟨cz,cB,aL⟩,⟨bu,fn',aD⟩,⟨bz,bA,aE⟩⟩).toList)
  generalize putC X0 (w.heap.size+1) 0 (ae (s:Sy) ⟨⟨cy,bY,aB⟩,⟨bq,br,aC⟩,⟨cz,cB,aL⟩,⟨bu,fn',aD⟩,⟨bz,bA,aE⟩⟩).toList=Q at D KQ SQ ⊢
  exact bodyPost_ret (v := .tuple #[.agg (ae (s:Sy) ⟨⟨cy,bY,aB⟩,⟨bq,br,aC⟩,⟨cz,cB,aL⟩,⟨bu,fn',aD⟩,⟨bz,bA,aE⟩⟩),.bool false]) (by simp [results,Tryz.results146,go_sem,D.cells]) rfl (by rw [HT.out,jJ.out];first | exact ⟨_,cQ,rfl,SQ,KQ⟩ | exact ⟨_,rfl,⟨_,SQ⟩,KQ⟩)
 have hq2:s.seq <= 900000:=by
  have:=jJ.out
  unfold iI at this
  simp at this
  omega
 have hr2:(rn:Int)+s.az <= 400:=by
  have:=jJ.out
  unfold iI at this
  rw [Hrl.out] at this
  simp at this
  omega
 obtain ⟨_,o1,o2⟩:=G0.out.var.box
 dsimp only [ae] at o1
 go_upto_region 7 with fail
 have G1:Hid (aP w2 w1.heap.size ⟨⟨cy,bY,aB⟩,⟨bq,br,aC⟩,⟨cz,cB,aL⟩,⟨bu,fn',aD⟩,⟨bz,bA,aE⟩⟩ cQ (X0.setCell ⟨ob,4,none⟩ (.slice none 0 0)) ob ⟨⟨cy,bY,aB⟩,⟨bq,br,aC⟩,⟨none,0,0⟩,⟨bu,fn',aD⟩,⟨bz,bA,aE⟩⟩ cQ { s with ah:=[] }):=G0.out.ah (aa.refl _) (x:=⟨none,0,0⟩) (World.ownsRow_nil _ _ _ _) (World.grownBy.refl _ _) (fun q hq=>by simp [Value.ownBlock] at hq)
 clear o1 o2 G0 K0 DS
 generalize X0.setCell ⟨ob,4,none⟩ (.slice none 0 0)=X1 at *
 go_upto_block 0 with fail
 go_cut [] (fun wx=>∃ (a:Option Addr) (n c:Nat),Hid (aP w2 w1.heap.size ⟨⟨cy,bY,aB⟩,⟨bq,br,aC⟩,⟨cz,cB,aL⟩,⟨bu,fn',aD⟩,⟨bz,bA,aE⟩⟩ cQ wx ob ⟨⟨cy,bY,aB⟩,⟨bq,br,aC⟩,⟨a,n,c⟩,⟨bu,fn',aD⟩,⟨bz,bA,aE⟩⟩ cQ { s with ah:=s.ah.filter (fun g=>decide (s.now < g.fU)) }))
 case first=>as_aux_lemma =>
  go_wp2
  go_loopw [5] (fun i wr=>∃ (k:Nat) (a:Option Addr) (n c:Nat) (gs:List Gh),k <= gn /\ i = .int .i64 k /\ Hid (aP w2 w1.heap.size ⟨⟨cy,bY,aB⟩,⟨bq,br,aC⟩,⟨cz,cB,aL⟩,⟨bu,fn',aD⟩,⟨bz,bA,aE⟩⟩ cQ wr ob ⟨⟨cy,bY,aB⟩,⟨bq,br,aC⟩,⟨a,n,c⟩,⟨bu,fn',aD⟩,⟨bz,bA,aE⟩⟩ cQ { s with ah:=gs }) /\ Hid (gs=(s.ah.take k).filter (fun g=>decide (s.now < g.fU))) /\ gs.length <= k) (fun i _=>gn - (intOf i).toNat)
  case atStart=>exact ⟨0,none,0,0,[],Nat.zero_le _,rfl,G1,by show _=_;simp,by simp⟩
  case round =>
   obtain ⟨k,a,n,c,gs,hk,rfl,G,xS,hgs⟩:=hrel
   have KW:aa Z wr:=G.out.eP O2.out mf.out hZ1.out
   clear G1
   by_cases hlt:k < gn
   ·have hlt':(k:Int) < (gn:Int):=by omega
    obtain ⟨x,hx⟩:=bW (xs:=s.ah) (k:=k) (by rw [xP.out];exact hlt)
    have hg0:Gs Z ga s.ah:=HS.out.lay.g
    obtain ⟨gb,so,rfl,q0,q1⟩:=hg0.at hx (by omega)
    have Hx:Hid (s.ah[k]?=some x):=hx
    clear hx hg0
    go_upto_region 10 with fail
    refine wp_region_held_drew (S:=(fun w'=>aa Z w')) (by kernel_rfl) ?_ (fun hHeld => ?_)
    ·exact KW.drew
    refine ad.go [0,1,2,3,4,5,6,7,8] ?_
    iterate 9 (refine aJ (h := ?_);try simp only [ar])
    refine ad.nil ?_
    refine wpAnyH_done (by kernel_rfl) ?_ _
    cases c5:decide (s.now < x.fU)
    ·have HG:Hid (gs=(s.ah.take (k+1)).filter (fun g=>decide (s.now < g.fU))):=by show _=_;rw [xu _ Hx.out,<- xS.out,c5];simp
     go_wp2
     exact ⟨⟨k+1,a,n,c,gs,by omega,by go_num,G.out.keeps (aa.refl _).drew,HG,by omega⟩,by simp only [intOf];omega⟩
    ·have P4:s.now < x.fU:=by simpa using c5
     have HG:Hid (gs++[x]=(s.ah.take (k+1)).filter (fun g=>decide (s.now < g.fU))):=by show _=_;rw [xu _ Hx.out,<- xS.out,c5];simp
     go_upto_region 11 with fail
     have G2:Hid (aP w2 w1.heap.size ⟨⟨cy,bY,aB⟩,⟨bq,br,aC⟩,⟨cz,cB,aL⟩,⟨bu,fn',aD⟩,⟨bz,bA,aE⟩⟩ cQ wr.drew ob ⟨⟨cy,bY,aB⟩,⟨bq,br,aC⟩,⟨a,n,c⟩,⟨bu,fn',aD⟩,⟨bz,bA,aE⟩⟩ cQ { s with ah:=gs }):=G.out.keeps (aa.refl _).drew
     have DT:aa Z wr.drew:=KW.drew
     clear G KW
     generalize wr.drew=X at *
     have H0:Hid (Has Z ob (ae ({ s with ah:=gs }:Sy) ⟨⟨cy,bY,aB⟩,⟨bq,br,aC⟩,⟨a,n,c⟩,⟨bu,fn',aD⟩,⟨bz,bA,aE⟩⟩) X):=⟨DT,G2.out.var.box⟩
     have e0:∀ w',Has Z ob (ae ({ s with ah:=gs }:Sy) ⟨⟨cy,bY,aB⟩,⟨bq,br,aC⟩,⟨a,n,c⟩,⟨bu,fn',aD⟩,⟨bz,bA,aE⟩⟩) w'->∀ j,w'.cell? ⟨ob,j,none⟩=(ae ({ s with ah:=gs }:Sy) ⟨⟨cy,bY,aB⟩,⟨bq,br,aC⟩,⟨a,n,c⟩,⟨bu,fn',aD⟩,⟨bz,bA,aE⟩⟩)[j]?:=fun w' hh=>hh.box.cells
     have e1:∀ w',Has Z ob (ae ({ s with ah:=gs }:Sy) ⟨⟨cy,bY,aB⟩,⟨bq,br,aC⟩,⟨a,n,c⟩,⟨bu,fn',aD⟩,⟨bz,bA,aE⟩⟩) w'->∀ j,w'.cell? ⟨w.heap.size,j,none⟩=_:=fun w' hh=>hb0 w' hh.keeps
     have e2:∀ w',Has Z ob (ae ({ s with ah:=gs }:Sy) ⟨⟨cy,bY,aB⟩,⟨bq,br,aC⟩,⟨a,n,c⟩,⟨bu,fn',aD⟩,⟨bz,bA,aE⟩⟩) w'->w'.cell? ⟨gb,so+k*4,none⟩=_:=fun w' hh=>q0 w' hh.keeps
     have e3:∀ w',Has Z ob (ae ({ s with ah:=gs }:Sy) ⟨⟨cy,bY,aB⟩,⟨bq,br,aC⟩,⟨a,n,c⟩,⟨bu,fn',aD⟩,⟨bz,bA,aE⟩⟩) w'->∀ j,j < 4->w'.cell? ⟨gb,so+k*4+j,none⟩=_:=fun w' hh=>q1 w' hh.keeps
     dsimp only [ae] at e0
     refine lO 10 (S:=(fun w'=>Has Z ob (ae ({ s with ah:=gs }:Sy) ⟨⟨cy,bY,aB⟩,⟨bq,br,aC⟩,⟨a,n,c⟩,⟨bu,fn',aD⟩,⟨bz,bA,aE⟩⟩) w')) (by kernel_rfl) ?_ (fun hHeld => ?_)
     ·exact H0.out.go (aa.refl _).drew
     refine ad.go [0,1,2,3,4,5,6] ?_
     iterate 7 (refine iB (h := ?_);try simp only [ar])
     refine ad.nil ?_
     refine hH (i:=7) (h:=fun K hK => ?_)
     go_simp
     try go_wp2_with fail
     refine hK.out _ _ ?_ fun hHeld => ?_
     ·exact Has.go (by assumption) ((aa.refl _).alloc _)
     clear hK K
     try simp only [ar]
     refine hH (i:=8) (h:=fun K hK => ?_)
     (refine pA rfl (.tmp 52) (.tmp 58) 26 rfl w1.heap.size 87 (.agg (dM Gh.zero)) 4 32 dM Tryz.underlying26 (by kernel_rfl) rfl (by decide) jS qD (.slice a n c) gs (by simp [Act.eval]) (G2.out.var.own.g.keeps ((aa.refl X).alloc _).drew) (by have:=G2.out.var.gI;have:=G2.out.var.box.lt;simp;omega) [x] _ 0 1 (qE ((ai.new X (dM x) 87).keeps (aa.refl _).drew)) (by simp [Act.eval]) (by simp [maxLen];omega) (by simp;omega) ?_;intro v7 w7 o7 g7 f7;obtain ⟨a7,c7,e7⟩:=o7.form jS;obtain ⟨m7,mo⟩:∃ m,Hid ((gs++[x]).length=m):=⟨_,rfl⟩;rw [mo.out] at e7;subst e7;have G3:Hid (aP w2 w1.heap.size ⟨⟨cy,bY,aB⟩,⟨bq,br,aC⟩,⟨cz,cB,aL⟩,⟨bu,fn',aD⟩,⟨bz,bA,aE⟩⟩ cQ (w7.setCell ⟨ob,4,none⟩ (.slice a7 m7 c7)) ob ⟨⟨cy,bY,aB⟩,⟨bq,br,aC⟩,⟨a7,m7,c7⟩,⟨bu,fn',aD⟩,⟨bz,bA,aE⟩⟩ cQ { s with ah:=gs++[x] }):=G2.out.ah ((aa.refl X).alloc _).drew (x:=⟨a7,m7,c7⟩) o7 g7 (fun q hq=>(f7 q hq).imp id (fun e=>by rw [e];simp)))
     refine hK.out _ _ ?_ fun hHeld => ?_
     ·exact ⟨aa.grown ((DT.alloc _).drew) g7 (fun q hq=>by have:=(G2.out.var.own.aG (i:=2) hq).1;have:=hZ1.out;omega),(G2.out.var.box.keeps ((aa.refl X).alloc _).drew).grown g7 (fun q e e2=>G2.out.var.far 2 (by rw [<- e2];exact e))⟩
     clear hK K
     try simp only [ar]
     refine ad.go [9] ?_
     iterate 1 (refine iB (h := ?_);try simp only [ar])
     refine ad.nil ?_
     refine lP (h:=fun K hK => ?_)
     have DU:Has Z ob (ae ({ s with ah:=gs }:Sy) ⟨⟨cy,bY,aB⟩,⟨bq,br,aC⟩,⟨a,n,c⟩,⟨bu,fn',aD⟩,⟨bz,bA,aE⟩⟩) w7:=(by assumption);obtain ⟨_,z1,z2⟩:=DU.box
     go_simp
     try go_wp2_with fail
     refine hK.out _ _ ?_
     clear hK K
     try simp only [ar]
     clear z1 z2 DU e0 e1 e2 e3 g7 o7 f7
     go_wp2
     exact ⟨⟨k+1,a7,m7,c7,gs++[x],by omega,by go_num,G3,HG,by simp;omega⟩,by simp only [intOf];omega⟩
   ·have e:k=gn:=by omega
    have HE:Hid (gs=s.ah.filter (fun g=>decide (s.now < g.fU))):=by
     have h1:=xS.out
     rw [List.take_of_length_le (by have:=xP.out;omega)] at h1
     exact h1
    rw [HE.out] at G
    subst e
    go_wp2
    go_meet
    exact ⟨a,n,c,G⟩
 case rest =>
 obtain ⟨xa,xn,xc,G2⟩:=hcut
 clear G1
 go_upto_block 2 with fail
 go_cut [] (fun wx=>Hid (aP w2 w1.heap.size ⟨⟨cy,bY,aB⟩,⟨bq,br,aC⟩,⟨cz,cB,aL⟩,⟨bu,fn',aD⟩,⟨bz,bA,aE⟩⟩ cQ wx ob ⟨⟨cy,bY,aB⟩,⟨bq,br,aC⟩,⟨xa,xn,xc⟩,⟨bu,fn',aD⟩,⟨bz,bA,aE⟩⟩ cQ (fZ s)))
 case first =>
  go_wp2
  go_loopw [6] (fun i wr=>∃ (k:Nat) (ms:Int) (ys:List ag),k <= bY /\ i = .int .i64 k /\ 0 <= ms /\ ms <= 100000 /\ Hid (aP w2 w1.heap.size ⟨⟨cy,bY,aB⟩,⟨bq,br,aC⟩,⟨cz,cB,aL⟩,⟨bu,fn',aD⟩,⟨bz,bA,aE⟩⟩ cQ wr ob ⟨⟨cy,bY,aB⟩,⟨bq,br,aC⟩,⟨xa,xn,xc⟩,⟨bu,fn',aD⟩,⟨bz,bA,aE⟩⟩ cQ { s with ah:=s.ah.filter (fun g=>decide (s.now < g.fU)),missed:=ms,tasks:=ys }) /\ Hid (ms=(s.tasks.take k).foldl (ks s.now) s.missed) /\ Hid (ys.length=bY) /\ Hid (∀ (j:Nat) (t:ag),s.tasks[j]?=some t->ys[j]?=some (if j < k then js s.now t else t))) (fun i _=>bY - (intOf i).toNat)
  case atStart=>exact ⟨0,s.missed,s.tasks,Nat.zero_le _,rfl,hm0,hm1,G2,by show _=_;simp,mc,fun j t hj=>by simpa using hj⟩
  case round =>
   obtain ⟨k,ms,ys,hk,rfl,o9,pd,G,qh,hy,hf⟩:=hrel
   have KW:aa Z wr:=G.out.eP O2.out mf.out hZ1.out
   clear G2
   by_cases hlt:k < bY
   ·have hlt':(k:Int) < (bY:Int):=by omega
    obtain ⟨t,ht⟩:=bW (xs:=s.tasks) (k:=k) (by rw [mc.out];exact hlt)
    have HT:Hid (s.tasks[k]?=some t):=ht
    have Hy:Hid (ys[k]?=some t):=by have:=hf.out k t ht;rw [if_neg (by omega)] at this;exact this
    obtain ⟨rb,hrb⟩:=G.out.var.own.bm (k:=k) (by show _ < ys.length;rw [hy.out];exact hlt)
    dsimp only at hrb
    subst hrb
    have b0:∀ w',aa wr w'->∀ j,w'.cell? ⟨ob,j,none⟩=(ae ({ s with ah:=s.ah.filter (fun g=>decide (s.now < g.fU)),missed:=ms,tasks:=ys }:Sy) ⟨⟨some ⟨rb,0,none⟩,bY,aB⟩,⟨bq,br,aC⟩,⟨xa,xn,xc⟩,⟨bu,fn',aD⟩,⟨bz,bA,aE⟩⟩)[j]?:=fun w' kk=>(G.out.var.box.keeps kk).cells
    have b1:∀ w',aa wr w'->∀ j,w'.cell? ⟨w.heap.size,j,none⟩=_:=fun w' kk=>hb0 w' (KW.trans kk)
    have lF:rb < wr.heap.size:=(G.out.var.own.aG (i:=0) (b:=rb) rfl).2
    have zz:=(G.out.var.own.aI (rb:=rb) rfl (k:=k) (t:=t) Hy.out).1
    have b2:∀ w',aa wr w'->∀ j,j < 14->w'.cell? ⟨rb,k*14+j,none⟩=(tc t)[j]?:=fun w' kk j hj=>(kk.cells rb _ lF).trans (zz j hj)
    have b3:∀ w',aa wr w'->w'.cell? ⟨rb,k*14,none⟩=some (.int .i64 t.no):=fun w' kk=>b2 w' kk 0 (by omega)
    have b4:∀ w',aa wr w'->∀ j,w'.frozen? ⟨ob,j,none⟩=false:=fun w' kk j=>(G.out.var.box.keeps kk).aM j
    have sq:ob < wr.heap.size:=G.out.var.box.lt
    have sr:ob≠wr.heap.size:=by omega
    have ss:w.heap.size < wr.heap.size:=by have:=KW.size;have:=hz.out;omega
    have su:w.heap.size≠wr.heap.size:=by omega
    dsimp only [ae] at b0
    clear ht zz
    cases c1:(t.cls != 1)
    rotate_left
    ·have c1':(t.cls==1)=false:=by simpa [bne] using c1
     have kf:Hid (ma s.now t=false):=by show _=_;unfold ma;rw [c1'];rfl
     have HM:Hid (ms=(s.tasks.take (k+1)).foldl (ks s.now) s.missed):=by show _=_;rw [jT HT.out,List.foldl_append,<- qh.out];simp [ks,kf.out]
     go_wp2
     refine ⟨⟨k+1,ms,ys,by omega,by go_num,o9,pd,G.out.keeps ((aa.refl _).alloc _),HM,hy,?_⟩,by simp only [intOf];omega⟩
     intro j t2 hj
     by_cases e:j=k
     ·subst e
      rw [HT.out] at hj
      cases hj
      rw [if_pos (by omega)]
      rw [show js s.now t=t from by unfold js;rw [kf.out];rfl];have:=hf.out j t HT.out;rw [if_neg (by omega)] at this;exact this
     ·have:=hf.out j t2 hj
      by_cases h3:j < k
      ·rw [if_pos h3] at this;rw [if_pos (by omega)];first | exact this | (rw [List.getElem?_set_ne (Ne.symm e)];exact this)
      ·rw [if_neg h3] at this;rw [if_neg (by omega)];first | exact this | (rw [List.getElem?_set_ne (Ne.symm e)];exact this)
    have c1':(t.cls==1)=true:=by simpa [bne] using c1
    cases c2:t.idle
    rotate_left
    ·skip
     have kf:Hid (ma s.now t=false):=by show _=_;unfold ma;rw [c1',c2];rfl
     have HM:Hid (ms=(s.tasks.take (k+1)).foldl (ks s.now) s.missed):=by show _=_;rw [jT HT.out,List.foldl_append,<- qh.out];simp [ks,kf.out]
     go_wp2
     refine ⟨⟨k+1,ms,ys,by omega,by go_num,o9,pd,G.out.keeps ((aa.refl _).alloc _),HM,hy,?_⟩,by simp only [intOf];omega⟩
     intro j t2 hj
     by_cases e:j=k
     ·subst e
      rw [HT.out] at hj
      cases hj
      rw [if_pos (by omega)]
      rw [show js s.now t=t from by unfold js;rw [kf.out];rfl];have:=hf.out j t HT.out;rw [if_neg (by omega)] at this;exact this
     ·have:=hf.out j t2 hj
      by_cases h3:j < k
      ·rw [if_pos h3] at this;rw [if_pos (by omega)];first | exact this | (rw [List.getElem?_set_ne (Ne.symm e)];exact this)
      ·rw [if_neg h3] at this;rw [if_neg (by omega)];first | exact this | (rw [List.getElem?_set_ne (Ne.symm e)];exact this)
    cases c3:decide (s.now < t.due)
    rotate_left
    ·have c3':s.now < t.due:=by simpa using c3
     have lG:decide (t.due <= s.now)=false:=by simp;omega
     have kf:Hid (ma s.now t=false):=by show _=_;unfold ma;rw [c1',c2,lG];rfl
     have HM:Hid (ms=(s.tasks.take (k+1)).foldl (ks s.now) s.missed):=by show _=_;rw [jT HT.out,List.foldl_append,<- qh.out];simp [ks,kf.out]
     go_wp2
     refine ⟨⟨k+1,ms,ys,by omega,by go_num,o9,pd,G.out.keeps ((aa.refl _).alloc _),HM,hy,?_⟩,by simp only [intOf];omega⟩
     intro j t2 hj
     by_cases e:j=k
     ·subst e
      rw [HT.out] at hj
      cases hj
      rw [if_pos (by omega)]
      rw [show js s.now t=t from by unfold js;rw [kf.out];rfl];have:=hf.out j t HT.out;rw [if_neg (by omega)] at this;exact this
     ·have:=hf.out j t2 hj
      by_cases h3:j < k
      ·rw [if_pos h3] at this;rw [if_pos (by omega)];first | exact this | (rw [List.getElem?_set_ne (Ne.symm e)];exact this)
      ·rw [if_neg h3] at this;rw [if_neg (by omega)];first | exact this | (rw [List.getElem?_set_ne (Ne.symm e)];exact this)
    have lG:decide (t.due <= s.now)=true:=by simp at c3;simp;omega
    have DW:¬ s.now < t.due:=by simpa using c3
    have kf:Hid (ma s.now t=true):=by show _=_;unfold ma;rw [c1',c2,lG];rfl
    have eT:({ t with idle:=false }:ag)=t:=by rw [<- c2]
    have FT:Hid (∀ i,¬ bp ⟨⟨some ⟨rb,0,none⟩,bY,aB⟩,⟨bq,br,aC⟩,⟨xa,xn,xc⟩,⟨bu,fn',aD⟩,⟨bz,bA,aE⟩⟩ cQ i wr.heap.size):=fun i hi=>by have:=(G.out.var.own.aG hi).2;omega
    have Oh:IntKind.i64.wrap (ms+1)=ms+1:=Go.IntWalk.i64_in _ (by omega)
    cases c4:decide (0 < t.left)
    ·have nK:¬ 0 < t.left:=by simpa using c4
     go_upto_region 19 with fail
     have GX:Hid (aP w2 w1.heap.size ⟨⟨some ⟨rb,0,none⟩,bY,aB⟩,⟨bq,br,aC⟩,⟨cz,cB,aL⟩,⟨bu,fn',aD⟩,⟨bz,bA,aE⟩⟩ cQ (wr.alloc (.cells (tc { t with idle:=false }) 43)) ob ⟨⟨some ⟨rb,0,none⟩,bY,aB⟩,⟨bq,br,aC⟩,⟨xa,xn,xc⟩,⟨bu,fn',aD⟩,⟨bz,bA,aE⟩⟩ cQ { s with ah:=s.ah.filter (fun g=>decide (s.now < g.fU)),missed:=ms,tasks:=ys }):=G.out.keeps ((aa.refl _).alloc _)
     have pe:ai (wr.alloc (.cells (tc { t with idle:=false }) 43)) wr.heap.size (tc { t with idle:=false }):=ai.new _ _ _
     change Code.wp _ _ _ _ (wr.alloc (.cells (tc { t with idle:=false }) 43))
     clear b0 b1 b2 b3 b4 sr su sq ss lF G KW
     generalize wr.alloc (.cells (tc { t with idle:=false }) 43)=X1 at *
     generalize wr.heap.size=tb at *
     rw [eT] at pe
     have TX:Hid (ai X1 tb (tc t)):=pe
     clear pe eT c2 c1 c1' c3 lG DW nK
     have KX:aa Z X1:=GX.out.eP O2.out mf.out hZ1.out
     have e0:∀ w',aa X1 w'->∀ j,w'.cell? ⟨ob,j,none⟩=(ae ({ s with ah:=s.ah.filter (fun g=>decide (s.now < g.fU)),missed:=ms,tasks:=ys }:Sy) ⟨⟨some ⟨rb,0,none⟩,bY,aB⟩,⟨bq,br,aC⟩,⟨xa,xn,xc⟩,⟨bu,fn',aD⟩,⟨bz,bA,aE⟩⟩)[j]?:=fun w' kk=>(GX.out.var.box.keeps kk).cells
     have e1:∀ w',aa X1 w'->∀ j,w'.cell? ⟨w.heap.size,j,none⟩=_:=fun w' kk=>hb0 w' (KX.trans kk)
     have e2:∀ w',aa X1 w'->∀ j,w'.cell? ⟨tb,j,none⟩=(tc t)[j]?:=fun w' kk=>(TX.out.keeps kk).cells
     dsimp only [ae] at e0
     obtain ⟨NT,jw⟩:∃ N,Hid (j5 t s.now=N):=⟨_,rfl⟩
     refine lO 8 (S:=(fun w'=>aa X1 w')) (by kernel_rfl) ?_ (fun hHeld => ?_)
     ·exact (aa.refl X1).drew
     refine ad.go [0,1,2,3,4,5] ?_
     iterate 6 (refine iB (h := ?_);try simp only [ar])
     refine ad.nil ?_
     refine hH (i:=6) (h:=fun K hK => ?_)
     go_simp
     (go_at_call 176;refine (CI t s.now _).mono ?_;rintro e w8 ⟨rfl,k8⟩;rw [jw.out])
     try go_wp2_with fail
     refine hK.out _ _ ?_ fun hHeld => ?_
     ·exact aa.trans (by assumption) (by assumption)
     clear hK K
     try simp only [ar]
     refine ad.go [7] ?_
     iterate 1 (refine iB (h := ?_);try simp only [ar])
     refine ad.nil ?_
     refine lP (h:=fun K hK => ?_)
     have K8:aa X1 w8:=(by assumption);have G8:=GX.out.keeps K8;obtain ⟨z1,z2⟩:=G8.var.own.aI (rb:=rb) rfl (k:=k) (t:=t) Hy.out;have y0:w8.cell? ⟨rb,k*14,none⟩=some (.int .i64 t.no):=z1 0 (by omega)
     go_simp
     try go_wp2_with fail
     refine hK.out _ _ ?_
     clear hK K
     try simp only [ar]
     have G9:Hid (aP w2 w1.heap.size ⟨⟨some ⟨rb,0,none⟩,bY,aB⟩,⟨bq,br,aC⟩,⟨cz,cB,aL⟩,⟨bu,fn',aD⟩,⟨bz,bA,aE⟩⟩ cQ (putC w8 rb (k*14) (tc NT).toList) ob ⟨⟨some ⟨rb,0,none⟩,bY,aB⟩,⟨bq,br,aC⟩,⟨xa,xn,xc⟩,⟨bu,fn',aD⟩,⟨bz,bA,aE⟩⟩ cQ { s with ah:=s.ah.filter (fun g=>decide (s.now < g.fU)),missed:=ms,tasks:=ys.set k NT }):=G8.task (rb:=rb) rfl (by show _ < ys.length;rw [hy.out];exact hlt) NT
     change Exit.inBlock _ _ _ _ (putC w8 rb (k*14) (tc NT).toList)
     clear z1 z2 y0 G8 K8 e0 e1 e2 hHeld
     generalize putC w8 rb (k*14) (tc NT).toList=X9 at *
     have HM:Hid (ms=(s.tasks.take (k+1)).foldl (ks s.now) s.missed):=by show _=_;rw [jT HT.out,List.foldl_append,<- qh.out];simp [ks,kf.out,c4]
     go_wp2
     refine ⟨⟨k+1,ms,ys.set k NT,by omega,by go_num,by omega,by omega,G9,HM,by show _=_;simpa using hy.out,?_⟩,by simp only [intOf];omega⟩
     intro j t2 hj
     by_cases e:j=k
     ·subst e
      rw [HT.out] at hj
      cases hj
      rw [if_pos (by omega)]
      rw [show js s.now t=NT from by unfold js;rw [kf.out,<- jw.out];rfl];exact List.getElem?_set_self (by rw [hy.out];exact hlt)
     ·have:=hf.out j t2 hj
      by_cases h3:j < k
      ·rw [if_pos h3] at this;rw [if_pos (by omega)];first | exact this | (rw [List.getElem?_set_ne (Ne.symm e)];exact this)
      ·rw [if_neg h3] at this;rw [if_neg (by omega)];first | exact this | (rw [List.getElem?_set_ne (Ne.symm e)];exact this)
    ·have nK:0 < t.left:=by simpa using c4
     go_upto_region 19 with (go_at_call 109;refine (gG _ _ _).mono ?_;rintro e w' ⟨rfl,hw'⟩;have hw2:=hw'.symm;subst hw2)
     have GX:Hid (aP w2 w1.heap.size ⟨⟨some ⟨rb,0,none⟩,bY,aB⟩,⟨bq,br,aC⟩,⟨cz,cB,aL⟩,⟨bu,fn',aD⟩,⟨bz,bA,aE⟩⟩ cQ ((wr.setCell ⟨ob,7,none⟩ (.int .i64 (min (ms+1) 100000))).alloc (.cells (tc { t with idle:=false }) 43)) ob ⟨⟨some ⟨rb,0,none⟩,bY,aB⟩,⟨bq,br,aC⟩,⟨xa,xn,xc⟩,⟨bu,fn',aD⟩,⟨bz,bA,aE⟩⟩ cQ { s with ah:=s.ah.filter (fun g=>decide (s.now < g.fU)),missed:=min (ms+1) 100000,tasks:=ys }):=(G.out.num s.now s.az s.seq (min (ms+1) 100000) (k:=7) rfl (by omega)).keeps ((aa.refl _).alloc _)
     have pe:ai ((wr.setCell ⟨ob,7,none⟩ (.int .i64 (min (ms+1) 100000))).alloc (.cells (tc { t with idle:=false }) 43)) wr.heap.size (tc { t with idle:=false }):=by have:=ai.new (wr.setCell ⟨ob,7,none⟩ (.int .i64 (min (ms+1) 100000))) (tc { t with idle:=false }) 43;simpa using this
     change Code.wp _ _ _ _ ((wr.setCell ⟨ob,7,none⟩ (.int .i64 (min (ms+1) 100000))).alloc (.cells (tc { t with idle:=false }) 43))
     clear b0 b1 b2 b3 b4 sr su sq ss lF G KW
     generalize (wr.setCell ⟨ob,7,none⟩ (.int .i64 (min (ms+1) 100000))).alloc (.cells (tc { t with idle:=false }) 43)=X1 at *
     generalize wr.heap.size=tb at *
     rw [eT] at pe
     have TX:Hid (ai X1 tb (tc t)):=pe
     obtain ⟨mm,uc⟩:∃ mm,Hid (min (ms+1) 100000=mm):=⟨_,rfl⟩
     have Oi:0 <= mm:=by have:=uc.out;omega
     have Oj:mm <= 100000:=by have:=uc.out;omega
     rw [uc.out] at GX
     clear pe eT c2 c1 c1' c3 lG DW nK
     have KX:aa Z X1:=GX.out.eP O2.out mf.out hZ1.out
     have e0:∀ w',aa X1 w'->∀ j,w'.cell? ⟨ob,j,none⟩=(ae ({ s with ah:=s.ah.filter (fun g=>decide (s.now < g.fU)),missed:=mm,tasks:=ys }:Sy) ⟨⟨some ⟨rb,0,none⟩,bY,aB⟩,⟨bq,br,aC⟩,⟨xa,xn,xc⟩,⟨bu,fn',aD⟩,⟨bz,bA,aE⟩⟩)[j]?:=fun w' kk=>(GX.out.var.box.keeps kk).cells
     have e1:∀ w',aa X1 w'->∀ j,w'.cell? ⟨w.heap.size,j,none⟩=_:=fun w' kk=>hb0 w' (KX.trans kk)
     have e2:∀ w',aa X1 w'->∀ j,w'.cell? ⟨tb,j,none⟩=(tc t)[j]?:=fun w' kk=>(TX.out.keeps kk).cells
     dsimp only [ae] at e0
     obtain ⟨NT,jw⟩:∃ N,Hid (j5 t s.now=N):=⟨_,rfl⟩
     refine lO 8 (S:=(fun w'=>aa X1 w')) (by kernel_rfl) ?_ (fun hHeld => ?_)
     ·exact (aa.refl X1).drew
     refine ad.go [0,1,2,3,4,5] ?_
     iterate 6 (refine iB (h := ?_);try simp only [ar])
     refine ad.nil ?_
     refine hH (i:=6) (h:=fun K hK => ?_)
     go_simp
     (go_at_call 176;refine (CI t s.now _).mono ?_;rintro e w8 ⟨rfl,k8⟩;rw [jw.out])
     try go_wp2_with fail
     refine hK.out _ _ ?_ fun hHeld => ?_
     ·exact aa.trans (by assumption) (by assumption)
     clear hK K
     try simp only [ar]
     refine ad.go [7] ?_
     iterate 1 (refine iB (h := ?_);try simp only [ar])
     refine ad.nil ?_
     refine lP (h:=fun K hK => ?_)
     have K8:aa X1 w8:=(by assumption);have G8:=GX.out.keeps K8;obtain ⟨z1,z2⟩:=G8.var.own.aI (rb:=rb) rfl (k:=k) (t:=t) Hy.out;have y0:w8.cell? ⟨rb,k*14,none⟩=some (.int .i64 t.no):=z1 0 (by omega)
     go_simp
     try go_wp2_with fail
     refine hK.out _ _ ?_
     clear hK K
     try simp only [ar]
     have G9:Hid (aP w2 w1.heap.size ⟨⟨some ⟨rb,0,none⟩,bY,aB⟩,⟨bq,br,aC⟩,⟨cz,cB,aL⟩,⟨bu,fn',aD⟩,⟨bz,bA,aE⟩⟩ cQ (putC w8 rb (k*14) (tc NT).toList) ob ⟨⟨some ⟨rb,0,none⟩,bY,aB⟩,⟨bq,br,aC⟩,⟨xa,xn,xc⟩,⟨bu,fn',aD⟩,⟨bz,bA,aE⟩⟩ cQ { s with ah:=s.ah.filter (fun g=>decide (s.now < g.fU)),missed:=mm,tasks:=ys.set k NT }):=G8.task (rb:=rb) rfl (by show _ < ys.length;rw [hy.out];exact hlt) NT
     change Exit.inBlock _ _ _ _ (putC w8 rb (k*14) (tc NT).toList)
     clear z1 z2 y0 G8 K8 e0 e1 e2 hHeld
     generalize putC w8 rb (k*14) (tc NT).toList=X9 at *
     have HM:Hid (mm=(s.tasks.take (k+1)).foldl (ks s.now) s.missed):=by show _=_;rw [jT HT.out,List.foldl_append,<- qh.out];simp [ks,kf.out,c4,uc.out]
     go_wp2
     refine ⟨⟨k+1,mm,ys.set k NT,by omega,by go_num,by omega,by omega,G9,HM,by show _=_;simpa using hy.out,?_⟩,by simp only [intOf];omega⟩
     intro j t2 hj
     by_cases e:j=k
     ·subst e
      rw [HT.out] at hj
      cases hj
      rw [if_pos (by omega)]
      rw [show js s.now t=NT from by unfold js;rw [kf.out,<- jw.out];rfl];exact List.getElem?_set_self (by rw [hy.out];exact hlt)
     ·have:=hf.out j t2 hj
      by_cases h3:j < k
      ·rw [if_pos h3] at this;rw [if_pos (by omega)];first | exact this | (rw [List.getElem?_set_ne (Ne.symm e)];exact this)
      ·rw [if_neg h3] at this;rw [if_neg (by omega)];first | exact this | (rw [List.getElem?_set_ne (Ne.symm e)];exact this)
   ·have e:k=bY:=by omega
    subst e
    have HE:Hid ({ s with ah:=s.ah.filter (fun g=>decide (s.now < g.fU)),missed:=ms,tasks:=ys }=fZ s):=by
     show _=_
     have h1:=qh.out
     rw [List.take_of_length_le (by have:=mc.out;omega)] at h1
     have h2:ys=s.tasks.map (js s.now):=by
      apply List.ext_getElem?
      intro j
      rw [List.getElem?_map]
      cases e:s.tasks[j]? with
      | none =>
       have:s.tasks.length <= j:=List.getElem?_eq_none_iff.1 e
       rw [List.getElem?_eq_none (by rw [hy.out,<- mc.out];exact this)];rfl
      | some t =>
       have h3:=hf.out j t e
       rw [if_pos (by have:=da e;have:=mc.out;omega)] at h3
       exact h3
     unfold fZ
     rw [<- h1,h2]
    rw [HE.out] at G
    have Ok:=G.out.var.box.cells
    dsimp only [ae,fZ] at Ok
    go_wp2
    go_meet
    exact G
 case rest =>
 have G3:Hid (aP w2 w1.heap.size ⟨⟨cy,bY,aB⟩,⟨bq,br,aC⟩,⟨cz,cB,aL⟩,⟨bu,fn',aD⟩,⟨bz,bA,aE⟩⟩ cQ wc ob ⟨⟨cy,bY,aB⟩,⟨bq,br,aC⟩,⟨xa,xn,xc⟩,⟨bu,fn',aD⟩,⟨bz,bA,aE⟩⟩ cQ (fZ s)):=hcut
 clear hcut G2
 have hAs:bV (fZ s) <= 1500:=Nat.le_trans (DI s) hsm
 have DX:Hid (qg (fZ s)):=Oe HR.out.ld
 have HA1:Hid ((fZ s).az=s.az):=rfl
 have HA2:Hid ((fZ s).seq=s.seq):=rfl
 have DZ:Hid ((fZ s).now=s.now):=rfl
 have Ea:Hid ((fZ s).ax.length=fn'):=xQ.out
 have HAT:Hid (dW s=qW (eL (gS (fP (fZ s))) s.az.toNat)):=by show _=_;unfold dW;rw [jJ.out];rfl
 generalize fZ s=A at *
 obtain ⟨_,o1,o2⟩:=G3.out.var.box
 dsimp only [ae] at o1
 go_wp2_with fail
 refine (Ol (G3.out.var.own.on (by omega)) DX.out).mono ?_
 rintro e w4 ⟨vw,qi,rfl,O4,k4⟩
 obtain ⟨⟨kF,kG,eF⟩,⟨kH,kI,eG⟩,⟨kJ,kK,eH⟩,⟨fa4,gH,eI⟩,⟨kL,kM,eJ⟩⟩:=vw
 have g4:=G3.out.put (Goes.fresh O4 k4 (by have:=G3.out.var.gI;have:=G3.out.var.box.lt;omega))
 have q4:=(G3.out.var.box.keeps k4)
 obtain ⟨_,q1,q2⟩:=q4
 dsimp only [ae] at q1
 clear o1 o2 O4 k4
 go_upto_block 4 with fail
 have G4:Hid (aP w2 w1.heap.size ⟨⟨cy,bY,aB⟩,⟨bq,br,aC⟩,⟨cz,cB,aL⟩,⟨bu,fn',aD⟩,⟨bz,bA,aE⟩⟩ cQ (putC w4 ob 0 (ae (fP A) ⟨⟨kF,kG,eF⟩,⟨kH,kI,eG⟩,⟨kJ,kK,eH⟩,⟨fa4,gH,eI⟩,⟨kL,kM,eJ⟩⟩).toList) ob ⟨⟨kF,kG,eF⟩,⟨kH,kI,eG⟩,⟨kJ,kK,eH⟩,⟨fa4,gH,eI⟩,⟨kL,kM,eJ⟩⟩ qi (fP A)):=g4
 change Code.wp _ _ _ _ (putC w4 ob 0 (ae (fP A) ⟨⟨kF,kG,eF⟩,⟨kH,kI,eG⟩,⟨kJ,kK,eH⟩,⟨fa4,gH,eI⟩,⟨kL,kM,eJ⟩⟩).toList)
 clear g4 q1 q2 G3
 generalize putC w4 ob 0 (ae (fP A) ⟨⟨kF,kG,eF⟩,⟨kH,kI,eG⟩,⟨kJ,kK,eH⟩,⟨fa4,gH,eI⟩,⟨kL,kM,eJ⟩⟩).toList=X4 at *
 have hWs:bV (fP A) <= 1500:=by rw [DJ];exact hAs
 have HW1:Hid ((fP A).az=s.az):=HA1.out
 have HW2:Hid ((fP A).seq=s.seq):=HA2.out
 have HW3:Hid ((fP A).now=s.now):=DZ.out
 have qj:Hid ((fP A).ax.length=gH):=(G4.out.var.own.f.row fW).1
 have Eb:Hid ((gH:Int)=s.az):=by show _=_;rw [<- qj.out,show (fP A).ax.length=fn' from Ea.out,<- xQ.out];exact HR.out.ax
 generalize fP A=W at *
 clear hAs DX HA1 HA2 DZ Ea
 go_cut [] (fun wx=>Hid (aP w2 w1.heap.size ⟨⟨cy,bY,aB⟩,⟨bq,br,aC⟩,⟨cz,cB,aL⟩,⟨bu,fn',aD⟩,⟨bz,bA,aE⟩⟩ cQ wx ob ⟨⟨kF,kG,eF⟩,⟨kH,kI,eG⟩,⟨kJ,kK,eH⟩,⟨fa4,gH,eI⟩,⟨kL,kM,eJ⟩⟩ qi (gS W)))
 case first=>as_aux_lemma =>
  have P5:gH <= 4:=by have:=Eb.out;omega
  go_wp2
  go_loopw [8] (fun i wr=>∃ (k:Nat) (fs:List Int),k <= gH /\ i = .int .i64 k /\ Hid (aP w2 w1.heap.size ⟨⟨cy,bY,aB⟩,⟨bq,br,aC⟩,⟨cz,cB,aL⟩,⟨bu,fn',aD⟩,⟨bz,bA,aE⟩⟩ cQ wr ob ⟨⟨kF,kG,eF⟩,⟨kH,kI,eG⟩,⟨kJ,kK,eH⟩,⟨fa4,gH,eI⟩,⟨kL,kM,eJ⟩⟩ qi { W with ax:=fs }) /\ Hid (fs.length=gH) /\ Hid (∀ (j:Nat) (x:Int),W.ax[j]?=some x->fs[j]?=some (if j < k then lJ (nD W j) x else x))) (fun i _=>gH - (intOf i).toNat)
  case atStart=>exact ⟨0,W.ax,Nat.zero_le _,rfl,G4,qj,fun j x hj=>by simpa using hj⟩
  case round =>
   obtain ⟨k,fs,hk,rfl,G,hy,hf⟩:=hrel
   clear G4
   have b0:∀ w',aa wr w'->∀ j,w'.cell? ⟨ob,j,none⟩=(ae ({ W with ax:=fs }:Sy) ⟨⟨kF,kG,eF⟩,⟨kH,kI,eG⟩,⟨kJ,kK,eH⟩,⟨fa4,gH,eI⟩,⟨kL,kM,eJ⟩⟩)[j]?:=fun w' kk=>(G.out.var.box.keeps kk).cells
   dsimp only [ae] at b0
   have gi:W.az=(gH:Int):=by rw [HW1.out,Eb.out]
   by_cases hlt:k < gH
   ·have hlt':(k:Int) < (gH:Int):=by omega
    obtain ⟨x,hx⟩:=bW (xs:=W.ax) (k:=k) (by rw [qj.out];exact hlt)
    have HX:Hid (W.ax[k]?=some x):=hx
    have Hy:Hid (fs[k]?=some x):=by have:=hf.out k x hx;rw [if_neg (by omega)] at this;exact this
    obtain ⟨fb,lf⟩:=G.out.var.own.iH (k:=k) (by show _ < fs.length;rw [hy.out];exact hlt)
    dsimp only at lf
    subst lf
    have fc:=G.out.var.own.fN (fb:=fb) rfl (k:=k) (x:=x) Hy.out
    have f0:∀ w',aa wr w'->w'.cell? ⟨fb,k,none⟩=some (.int .i64 x):=fun w' kk=>(kk.cells fb _ fc.2.2.1).trans fc.1
    have f1:∀ w',aa wr w'->w'.frozen? ⟨fb,k,none⟩=false:=fun w' kk=>(kk.aM fb _ fc.2.2.1).trans (fc.2.1 k)
    have ON:Hid (aA wr ⟨⟨kF,kG,eF⟩,⟨kH,kI,eG⟩,⟨kJ,kK,eH⟩,⟨some ⟨fb,0,none⟩,gH,eI⟩,⟨kL,kM,eJ⟩⟩ { W with ax:=fs }):=G.out.var.own.on (by have h1:=hy.out;have h2:=qj.out;unfold bV at hWs ⊢;dsimp only;omega)
    obtain ⟨ff,nP⟩:∃ z,Hid (lJ (nD W k) x=z):=⟨_,rfl⟩
    obtain ⟨aw,xU⟩:∃ z,Hid (nD W k=z):=⟨_,rfl⟩
    rw [xU.out] at nP
    have CA:Hid (∀ w',aa wr w'->Calls Tryz.prog 179 #[.agg #[.int .i64 W.now,.int .i64 (gH:Int),.slice kF kG eF,.slice kH kI eG,.slice kJ kK eH,.slice (some ⟨fb,0,none⟩) gH eI,.int .i64 W.seq,.int .i64 W.missed,.slice kL kM eJ],.int .i64 k] w' fun e w''=>∃ u,e = .returned u /\ Own 43 14 tc w'' w'.heap.size u aw /\ aa w' w''):=fun w' kk=>by
     have h1:=N6 (ON.out.keeps kk) (k:Int)
     dsimp only [ae] at h1
     rw [gi] at h1
     refine h1.mono ?_
     rintro e w'' ⟨u,rfl,o,k'⟩
     exact ⟨u,rfl,by rw [<- xU.out];exact o,k'⟩
    simp only [gi] at b0
    clear hx fc gi
    go_upto_region 24 with fail
    refine lO 13 (S:=(fun w'=>aa wr w')) (by kernel_rfl) ?_ (fun hHeld => ?_)
    ·exact (aa.refl wr).drew
    refine ad.go [0,1,2,3,4,6,7,8,9,10] ?_
    iterate 10 (refine iB (h := ?_);try simp only [ar])
    refine ad.nil ?_
    refine hH (i:=5) (h:=fun K hK => ?_)
    go_simp
    first
     | (go_at_call 179;refine (CA.out _ (aa.refl wr).drew).mono ?_;rintro e w5 ⟨u5,rfl,o5,k5⟩;obtain ⟨a5,c5,e5,l5,m5,sv⟩:=o5.slice dC;subst e5;have L5:Hid (Ts w5 a5 aw):=l5;have M5:Hid (aw.length <= maxLen):=Nat.le_trans m5 sv;clear o5 l5 m5 sv)
     | (go_at_call 178;refine (Dg a5 c5 aw x _ M5.out L5.out).mono ?_;rintro e w6 ⟨rfl,k6⟩;rw [nP.out])
    try go_wp2_with fail
    refine hK.out _ _ ?_ fun hHeld => ?_
    ·exact aa.trans (by assumption) (by assumption)
    clear hK K
    try simp only [ar]
    refine hH (i:=11) (h:=fun K hK => ?_)
    go_simp
    first
     | (go_at_call 179;refine (CA.out _ (aa.refl wr).drew).mono ?_;rintro e w5 ⟨u5,rfl,o5,k5⟩;obtain ⟨a5,c5,e5,l5,m5,sv⟩:=o5.slice dC;subst e5;have L5:Hid (Ts w5 a5 aw):=l5;have M5:Hid (aw.length <= maxLen):=Nat.le_trans m5 sv;clear o5 l5 m5 sv)
     | (go_at_call 178;refine (Dg a5 c5 aw x _ M5.out L5.out).mono ?_;rintro e w6 ⟨rfl,k6⟩;rw [nP.out])
    try go_wp2_with fail
    refine hK.out _ _ ?_ fun hHeld => ?_
    ·exact aa.trans (by assumption) (by assumption)
    clear hK K
    try simp only [ar]
    refine ad.go [12] ?_
    iterate 1 (refine iB (h := ?_);try simp only [ar])
    refine ad.nil ?_
    refine lP (h:=fun K hK => ?_)
    have K6:aa wr w6:=(by assumption);have z1:=f0 w6 K6;have z2:=f1 w6 K6
    go_simp
    try go_wp2_with fail
    refine hK.out _ _ ?_
    clear hK K
    try simp only [ar]
    have G9:Hid (aP w2 w1.heap.size ⟨⟨cy,bY,aB⟩,⟨bq,br,aC⟩,⟨cz,cB,aL⟩,⟨bu,fn',aD⟩,⟨bz,bA,aE⟩⟩ cQ (w6.setCell ⟨fb,k,none⟩ (.int .i64 ff)) ob ⟨⟨kF,kG,eF⟩,⟨kH,kI,eG⟩,⟨kJ,kK,eH⟩,⟨some ⟨fb,0,none⟩,gH,eI⟩,⟨kL,kM,eJ⟩⟩ qi { W with ax:=fs.set k ff }):=(G.out.keeps K6).floor (fb:=fb) rfl Hy.out ff
    change Exit.inBlock _ _ _ _ (w6.setCell ⟨fb,k,none⟩ (.int .i64 ff))
    clear z1 z2 K6 b0 f0 f1 hHeld G
    generalize w6.setCell ⟨fb,k,none⟩ (.int .i64 ff)=X9 at *
    go_wp2
    refine ⟨⟨k+1,fs.set k ff,by omega,by go_num,G9,by show _=_;simpa using hy.out,?_⟩,by simp only [intOf];omega⟩
    intro j y hj
    by_cases e:j=k
    ·subst e
     rw [HX.out] at hj
     cases hj
     rw [if_pos (by omega),xU.out,nP.out]
     exact List.getElem?_set_self (by rw [hy.out];exact hlt)
    ·have:=hf.out j y hj
     rw [List.getElem?_set_ne (Ne.symm e),this]
     by_cases h3:j < k
     ·rw [if_pos h3,if_pos (by omega)]
     ·rw [if_neg h3,if_neg (by omega)]
   ·have e:k=gH:=by omega
    subst e
    have HE:Hid (({ W with ax:=fs }:Sy)=gS W):=by
     show _=_
     have h2:fs=W.ax.mapIdx fun c x=>lJ (nD W c) x:=by
      apply List.ext_getElem?
      intro j
      rw [List.getElem?_mapIdx]
      cases e:W.ax[j]? with
      | none =>
       have:W.ax.length <= j:=List.getElem?_eq_none_iff.1 e
       rw [List.getElem?_eq_none (by rw [hy.out,<- qj.out];exact this)];rfl
      | some x =>
       have h3:=hf.out j x e
       rw [if_pos (by have:=da e;have:=qj.out;omega)] at h3
       exact h3
     unfold gS
     rw [h2]
    rw [HE.out] at G
    go_wp2
    go_meet
    exact G
 case rest =>
 have G5:Hid (aP w2 w1.heap.size ⟨⟨cy,bY,aB⟩,⟨bq,br,aC⟩,⟨cz,cB,aL⟩,⟨bu,fn',aD⟩,⟨bz,bA,aE⟩⟩ cQ wc ob ⟨⟨kF,kG,eF⟩,⟨kH,kI,eG⟩,⟨kJ,kK,eH⟩,⟨fa4,gH,eI⟩,⟨kL,kM,eJ⟩⟩ qi (gS W)):=hcut
 clear hcut G4
 have P7:bV (gS W) <= 1500:=by rw [DM];exact hWs
 have Om:Hid ((gS W).az=s.az):=HW1.out
 have qy:Hid ((gS W).seq=s.seq):=HW2.out
 have Oo:Hid ((gS W).now=s.now):=HW3.out
 generalize gS W=F at *
 obtain ⟨cn,hcn⟩:∃ cn:Nat,s.az=(cn:Int):=⟨s.az.toNat,by omega⟩
 have Ec:Hid (s.az=(cn:Int)):=hcn
 have Oq:cn <= 4:=by omega
 clear hcn
 go_upto_block 6 with fail
 go_cut [] (fun wx=>∃ v5 fS,Hid (aP w2 w1.heap.size ⟨⟨cy,bY,aB⟩,⟨bq,br,aC⟩,⟨cz,cB,aL⟩,⟨bu,fn',aD⟩,⟨bz,bA,aE⟩⟩ cQ wx ob v5 fS (eL F cn)))
 case first =>
  go_wp2
  go_loopw [9] (fun i wr=>∃ (k:Nat) (v5:Sv) (fS:List Lv),k <= cn /\ i = .int .i64 k /\ Hid (aP w2 w1.heap.size ⟨⟨cy,bY,aB⟩,⟨bq,br,aC⟩,⟨cz,cB,aL⟩,⟨bu,fn',aD⟩,⟨bz,bA,aE⟩⟩ cQ wr ob v5 fS (eL F k))) (fun i _=>cn - (intOf i).toNat)
  case atStart=>exact ⟨0,⟨⟨kF,kG,eF⟩,⟨kH,kI,eG⟩,⟨kJ,kK,eH⟩,⟨fa4,gH,eI⟩,⟨kL,kM,eJ⟩⟩,qi,Nat.zero_le _,rfl,G5⟩
  case round =>
   obtain ⟨k,⟨⟨yA,yB,bH⟩,⟨yD,yE,bI⟩,⟨yG,yH,bJ⟩,⟨yJ,yK,bK⟩,⟨yM,yN,bL⟩⟩,fS,hk,rfl,G⟩:=hrel
   clear G5
   obtain ⟨t1,t2,t3,t4,t5⟩:=qX F k
   have HT1:(eL F k).az=(cn:Int):=by rw [t1,Om.out,Ec.out]
   have Ot:Hid (bV (eL F k) <= 2000000):=by show _ <= _;omega
   have Ou:Hid (0 <= (eL F k).seq):=by show _ <= _;have:=qy.out;omega
   have Ov:Hid ((eL F k).seq <= 2000000):=by show _ <= _;have:=qy.out;omega
   have Ow:Hid (eL F (k+1)=gw (eL F k) k):=rfl
   clear t1 t2 t3 t4 t5
   generalize hTe:eL F k=T at *
   have Ox:Hid (eL F k=T):=hTe
   clear hTe
   obtain ⟨_,o1,o2⟩:=G.out.var.box
   dsimp only [ae] at o1
   have CT:Hid (Calls Tryz.prog 180 #[.agg #[.int .i64 T.now,.int .i64 (cn:Int),.slice yA yB bH,.slice yD yE bI,.slice yG yH bJ,.slice yJ yK bK,.int .i64 T.seq,.int .i64 T.missed,.slice yM yN bL],.int .i64 k] wr fun e w'=>∃ v' vs',e = .returned (.agg (ae (gw T k) v')) /\ Goes wr w1.heap.size ⟨⟨yA,yB,bH⟩,⟨yD,yE,bI⟩,⟨yG,yH,bJ⟩,⟨yJ,yK,bK⟩,⟨yM,yN,bL⟩⟩ fS w' v' vs' (gw T k)):=by
    have h1:=Oy G.out.var.own (by have:=G.out.var.gI;have:=G.out.var.box.lt;omega) Ot.out Ou.out Ov.out (k:Int)
    dsimp only [ae] at h1
    rw [HT1] at h1
    exact h1
   simp only [HT1] at o1
   clear HT1
   by_cases hlt:k < cn
   ·have hlt':(k:Int) < (cn:Int):=by omega
    go_wp2_with fail
    refine CT.out.mono ?_
    rintro e w7 ⟨⟨⟨bM,bN,dv⟩,⟨bG,bE,dw⟩,⟨bO,bP,dx⟩,⟨fa6,bQ,dy⟩,⟨bR,bS,dz⟩⟩,fh,rfl,g7⟩
    have G7:Hid (aP w2 w1.heap.size ⟨⟨cy,bY,aB⟩,⟨bq,br,aC⟩,⟨cz,cB,aL⟩,⟨bu,fn',aD⟩,⟨bz,bA,aE⟩⟩ cQ (putC w7 ob 0 (ae (gw T k) ⟨⟨bM,bN,dv⟩,⟨bG,bE,dw⟩,⟨bO,bP,dx⟩,⟨fa6,bQ,dy⟩,⟨bR,bS,dz⟩⟩).toList) ob ⟨⟨bM,bN,dv⟩,⟨bG,bE,dw⟩,⟨bO,bP,dx⟩,⟨fa6,bQ,dy⟩,⟨bR,bS,dz⟩⟩ fh (gw T k)):=G.out.put g7
    obtain ⟨_,q1,q2⟩:=g7.blk G.out.var.box G.out.var.far
    dsimp only [ae] at q1
    clear o1 o2 g7
    go_upto_region 27 with fail
    change Code.wp _ _ _ _ (putC w7 ob 0 (ae (gw T k) ⟨⟨bM,bN,dv⟩,⟨bG,bE,dw⟩,⟨bO,bP,dx⟩,⟨fa6,bQ,dy⟩,⟨bR,bS,dz⟩⟩).toList)
    clear q1 q2
    generalize putC w7 ob 0 (ae (gw T k) ⟨⟨bM,bN,dv⟩,⟨bG,bE,dw⟩,⟨bO,bP,dx⟩,⟨fa6,bQ,dy⟩,⟨bR,bS,dz⟩⟩).toList=X7 at *
    go_wp2
    exact ⟨⟨k+1,⟨⟨bM,bN,dv⟩,⟨bG,bE,dw⟩,⟨bO,bP,dx⟩,⟨fa6,bQ,dy⟩,⟨bR,bS,dz⟩⟩,fh,by omega,by go_num,by show aP _ _ _ _ _ _ _ _ _;rw [Ow.out];exact G7.out⟩,by simp only [intOf];omega⟩
   ·have e:k=cn:=by omega
    subst e
    go_wp2
    go_meet
    exact ⟨_,fS,by show aP _ _ _ _ _ _ _ _ _;rw [Ox.out];exact G.out⟩
 case rest =>
 obtain ⟨⟨⟨yA,yB,bH⟩,⟨yD,yE,bI⟩,⟨yG,yH,bJ⟩,⟨yJ,yK,bK⟩,⟨yM,yN,bL⟩⟩,fS,G6⟩:=hcut
 obtain ⟨t1,t2,t3,t4,t5⟩:=qX F cn
 have pf:(eL F cn).now=s.now:=by rw [t2,Oo.out]
 have Oz:Hid ((eL F cn).now=s.now):=pf
 have hnw:0 <= (eL F cn).now /\ (eL F cn).now <= 100000:=by rw [pf];exact ⟨hn0,hn1⟩
 obtain ⟨OC,OE⟩:=hnw
 have OG:Hid (dW s=qW (eL F cn)):=by show _=_;rw [HAT.out,Ec.out];rfl
 clear t1 t2 t3 t4 t5 pf G5
 generalize eL F cn=T at *
 obtain ⟨_,o1,o2⟩:=G6.out.var.box
 dsimp only [ae] at o1
 go_upto_region 30 with fail
 have G7:Hid (aP w2 w1.heap.size ⟨⟨cy,bY,aB⟩,⟨bq,br,aC⟩,⟨cz,cB,aL⟩,⟨bu,fn',aD⟩,⟨bz,bA,aE⟩⟩ cQ (wc.setCell ⟨ob,0,none⟩ (.int .i64 (T.now+1))) ob ⟨⟨yA,yB,bH⟩,⟨yD,yE,bI⟩,⟨yG,yH,bJ⟩,⟨yJ,yK,bK⟩,⟨yM,yN,bL⟩⟩ fS { T with now:=T.now+1 }):=G6.out.num (T.now+1) T.az T.seq T.missed (k:=0) rfl (by omega)
 clear o1 o2 G6
 generalize wc.setCell ⟨ob,0,none⟩ (.int .i64 (T.now+1))=X7 at *
 have HT:Hid (dW s={ T with now:=T.now+1 }):=OG.out
 have KX:aa Z X7:=G7.out.eP O2.out mf.out hZ1.out
 obtain ⟨_,o1,o2⟩:=G7.out.var.box
 dsimp only [ae] at o1
 obtain ⟨_,r1,r2⟩:=R0.out.keeps KX
 go_wp2
 have D:=(R0.out.keeps KX).putC (ae ({ T with now:=T.now+1 }:Sy) ⟨⟨yA,yB,bH⟩,⟨yD,yE,bI⟩,⟨yG,yH,bJ⟩,⟨yJ,yK,bK⟩,⟨yM,yN,bL⟩⟩).toList rfl
 have KQ:=aa.putC (b:=w.heap.size+1) (by omega) (ae ({ T with now:=T.now+1 }:Sy) ⟨⟨yA,yB,bH⟩,⟨yD,yE,bI⟩,⟨yG,yH,bJ⟩,⟨yJ,yK,bK⟩,⟨yM,yN,bL⟩⟩).toList 0 (kZ.trans KX)
 have SQ:ay (putC X7 (w.heap.size+1) 0 (ae ({ T with now:=T.now+1 }:Sy) ⟨⟨yA,yB,bH⟩,⟨yD,yE,bI⟩,⟨yG,yH,bJ⟩,⟨yJ,yK,bK⟩,⟨yM,yN,bL⟩⟩).toList) w.heap.size ⟨⟨yA,yB,bH⟩,⟨yD,yE,bI⟩,⟨yG,yH,bJ⟩,⟨yJ,yK,bK⟩,⟨yM,yN,bL⟩⟩ fS ({ T with now:=T.now+1 }):=(ay.aU (c:=w.heap.size+1) (fun i hi=>by have:=(G7.out.var.own.aG hi).1;have:=hz.out;have:=hZ1.out;omega) _ _ G7.out.var.own).base (by have:=hz.out;have:=hZ1.out;omega)
 change bodyPost _ _ _ _ _ (putC X7 (w.heap.size+1) 0 (ae ({ T with now:=T.now+1 }:Sy) ⟨⟨yA,yB,bH⟩,⟨yD,yE,bI⟩,⟨yG,yH,bJ⟩,⟨yJ,yK,bK⟩,⟨yM,yN,bL⟩⟩).toList)
 generalize putC X7 (w.heap.size+1) 0 (ae ({ T with now:=T.now+1 }:Sy) ⟨⟨yA,yB,bH⟩,⟨yD,yE,bI⟩,⟨yG,yH,bJ⟩,⟨yJ,yK,bK⟩,⟨yM,yN,bL⟩⟩).toList=Q at D KQ SQ ⊢
 exact bodyPost_ret (v := .tuple #[.agg (ae ({ T with now:=T.now+1 }:Sy) ⟨⟨yA,yB,bH⟩,⟨yD,yE,bI⟩,⟨yG,yH,bJ⟩,⟨yJ,yK,bK⟩,⟨yM,yN,bL⟩⟩),.bool true]) (by simp [results,Tryz.results146,go_sem,D.cells]) rfl (by rw [HT.out,jJ.out];first | exact ⟨_,fS,rfl,SQ,KQ⟩ | exact ⟨_,rfl,⟨_,SQ⟩,KQ⟩)
end Go.Proofs.YteagpjlgjfaclaaGreatDoor
