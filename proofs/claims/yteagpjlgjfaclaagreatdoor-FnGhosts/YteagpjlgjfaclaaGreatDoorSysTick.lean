/-
  Ticks: the model's tick.
  Ticks: so many of them.
-/
import Derived.Test.YteagpjlgjfaclaaGreatDoorSysCopy
import Derived.Test.YteagpjlgjfaclaaGreatDoorSysNewS
import Derived.Test.YteagpjlgjfaclaaGreatDoorSysWake
import Derived.Test.YteagpjlgjfaclaaGreatDoorSysTurn
import Derived.Test.YteagpjlgjfaclaaGreatDoorLaidErrs
import Derived.Test.YteagpjlgjfaclaaGreatDoorSysLocks
import Derived.Test.YteagpjlgjfaclaaGreatDoorFairList
import Derived.Deep.CutBlock
import Derived.Deep.DeepCutAuto
namespace Go.Proofs.YteagpjlgjfaclaaGreatDoor
set_option maxRecDepth 100000
open Go.RowKit
attribute [local go_sem] aa.refl aa.alloc aa.drew aa.drewN
set_option linter.unusedSimpArgs false in
set_option maxHeartbeats 20000000 in
theorem Jj {w:World} {v:Sv} {s:Sy} (h:aA w v s) :
  Calls Tryz.prog 146 #[.agg (ae s v)] w fun e w'=>∃ v' vs',e = .returned (.tuple #[.agg (ae (dF s) v'),.bool (g9 s)]) /\ ay w' w.heap.size v' vs' (dF s) /\ aa w w':=by
 obtain ⟨⟨ta,tn,ag⟩,⟨la,ln,ah⟩,⟨ga,gn,ai⟩,⟨fa,fn,aj⟩,⟨ra,rn,ao⟩⟩:=v
 have Hn:Hid (s.tasks.length=tn):=h.lay.tl
 have vb:Hid (s.af.length=gn):=h.lay.gl
 have Hrl:Hid (s.trace.length=rn):=h.lay.rl
 have kZ:aa w ((w.alloc (.cells (ae s ⟨⟨ta,tn,ag⟩,⟨la,ln,ah⟩,⟨ga,gn,ai⟩,⟨fa,fn,aj⟩,⟨ra,rn,ao⟩⟩) 30)).alloc (.cells zc 30)):=((aa.refl w).alloc _).alloc _
 have B0:Hid (aq ((w.alloc (.cells (ae s ⟨⟨ta,tn,ag⟩,⟨la,ln,ah⟩,⟨ga,gn,ai⟩,⟨fa,fn,aj⟩,⟨ra,rn,ao⟩⟩) 30)).alloc (.cells zc 30)) w.heap.size (ae s ⟨⟨ta,tn,ag⟩,⟨la,ln,ah⟩,⟨ga,gn,ai⟩,⟨fa,fn,aj⟩,⟨ra,rn,ao⟩⟩)):=(aq.new _ _ _).alloc _
 have R0:Hid (aq ((w.alloc (.cells (ae s ⟨⟨ta,tn,ag⟩,⟨la,ln,ah⟩,⟨ga,gn,ai⟩,⟨fa,fn,aj⟩,⟨ra,rn,ao⟩⟩) 30)).alloc (.cells zc 30)) (w.heap.size+1) zc):=by
  have:=aq.new (w.alloc (.cells (ae s ⟨⟨ta,tn,ag⟩,⟨la,ln,ah⟩,⟨ga,gn,ai⟩,⟨fa,fn,aj⟩,⟨ra,rn,ao⟩⟩) 30)) zc 30
  show aq _ _ _
  simpa using this
 have hz:Hid (((w.alloc (.cells (ae s ⟨⟨ta,tn,ag⟩,⟨la,ln,ah⟩,⟨ga,gn,ai⟩,⟨fa,fn,aj⟩,⟨ra,rn,ao⟩⟩) 30)).alloc (.cells zc 30)).heap.size=w.heap.size+2):=by show _=_;simp
 have HS:Hid (aA ((w.alloc (.cells (ae s ⟨⟨ta,tn,ag⟩,⟨la,ln,ah⟩,⟨ga,gn,ai⟩,⟨fa,fn,aj⟩,⟨ra,rn,ao⟩⟩) 30)).alloc (.cells zc 30)) ⟨⟨ta,tn,ag⟩,⟨la,ln,ah⟩,⟨ga,gn,ai⟩,⟨fa,fn,aj⟩,⟨ra,rn,ao⟩⟩ s):=h.keeps kZ
 clear h
 go_enter Tryz.func146,Tryz.ntmps146
 go_wp2_with fail
 change Calls _ _ _ ((w.alloc (.cells (ae s ⟨⟨ta,tn,ag⟩,⟨la,ln,ah⟩,⟨ga,gn,ai⟩,⟨fa,fn,aj⟩,⟨ra,rn,ao⟩⟩) 30)).alloc (.cells zc 30)) _
 generalize (w.alloc (.cells (ae s ⟨⟨ta,tn,ag⟩,⟨la,ln,ah⟩,⟨ga,gn,ai⟩,⟨fa,fn,aj⟩,⟨ra,rn,ao⟩⟩) 30)).alloc (.cells zc 30)=Z at *
 refine (qV HS.out).mono ?_
 rintro e w1 ⟨rfl,k1⟩
 have hb0:∀ w',aa Z w'->∀ j,w'.cell? ⟨w.heap.size,j,none⟩=(ae s ⟨⟨ta,tn,ag⟩,⟨la,ln,ah⟩,⟨ga,gn,ai⟩,⟨fa,fn,aj⟩,⟨ra,rn,ao⟩⟩)[j]?:=fun w' k=>(B0.out.keeps k).cells
 dsimp only [ae] at hb0
 cases hb:aY s
 ·have ij:Hid (g9 s=false):=by show _=_;unfold g9;rw [hb];rfl
  have HT:Hid (dF s=Sy.zero):=by show _=_;unfold dF;rw [ij.out,hb];rfl
  obtain ⟨_,r1,r2⟩:=R0.out.keeps k1
  go_wp2
  have D:=(R0.out.keeps k1).putC zc.toList rfl
  have KQ:=aa.putC (b:=w.heap.size+1) (by omega) zc.toList 0 (kZ.trans k1)
  change bodyPost _ _ _ _ _ (putC w1 (w.heap.size+1) 0 zc.toList)
  generalize putC w1 (w.heap.size+1) 0 zc.toList=Q at D KQ ⊢
  exact bodyPost_ret (v := .tuple #[.agg zc,.bool false]) (by simp [results,Tryz.results146,go_sem,D.cells]) rfl (by rw [HT.out,ij.out];first | exact ⟨Sv.zero,[],rfl,ay.nothing _ _,KQ⟩ | exact ⟨Sv.zero,rfl,⟨[],ay.nothing _ _⟩,KQ⟩)
 have R:=kQ.1 hb
 have hsm:bE s <= 1500:=R.small
 obtain ⟨hn0,hn1⟩:=R.now
 obtain ⟨hc0,hc1⟩:=R.az
 obtain ⟨hq0,hq1⟩:=R.seq
 obtain ⟨hm0,hm1⟩:=R.missed
 have htr:=R.trace
 have HR:Hid (cx s):=R
 clear R
 have hrn:rn <= 400:=by rw [<- Hrl.out];exact htr
 have hgn:gn <= 12:=by rw [<- vb.out];exact HR.out.few.2.2.1
 have htn:tn <= 12:=by rw [<- Hn.out];exact HR.out.few.1
 go_wp2_with fail
 refine (nZ (HS.out.keeps k1)).mono ?_
 rintro e w2 ⟨vo,cu,rfl,o2,k2⟩
 obtain ⟨⟨cg,bO,aC⟩,⟨bu,bx,aD⟩,⟨ch,cj,aK⟩,⟨bA,fn',aE⟩,⟨bB,bC,aF⟩⟩:=vo
 have O2:Hid (ay w2 w1.heap.size ⟨⟨cg,bO,aC⟩,⟨bu,bx,aD⟩,⟨ch,cj,aK⟩,⟨bA,fn',aE⟩,⟨bB,bC,aF⟩⟩ cu s):=o2
 have kM:Hid (aa Z w2):=k1.trans k2
 have hZ1:Hid (Z.heap.size <= w1.heap.size):=k1.size
 have kD:Hid (s.tasks.length=bO):=(o2.t.row cF).1
 have qv:bO <= 12:=by rw [<- kD.out];exact HR.out.few.1
 have vc:Hid (s.ax.length=fn'):=(o2.f.row fq).1
 have hfn':fn' <= 4:=by rw [<- vc.out];exact HR.out.few.2.2.2
 have g0:=aN.start o2 k2.size
 clear o2
 go_upto_region 4 with fail
 change Code.wp _ _ _ _ (w2.alloc (.cells (ae s ⟨⟨cg,bO,aC⟩,⟨bu,bx,aD⟩,⟨ch,cj,aK⟩,⟨bA,fn',aE⟩,⟨bB,bC,aF⟩⟩) 30))
 have eS:Hid (w2.heap.size=w2.heap.size):=rfl
 have K0:aa Z (w2.alloc (.cells (ae s ⟨⟨cg,bO,aC⟩,⟨bu,bx,aD⟩,⟨ch,cj,aK⟩,⟨bA,fn',aE⟩,⟨bB,bC,aF⟩⟩) 30)):=kM.out.alloc _
 generalize w2.alloc (.cells (ae s ⟨⟨cg,bO,aC⟩,⟨bu,bx,aD⟩,⟨ch,cj,aK⟩,⟨bA,fn',aE⟩,⟨bB,bC,aF⟩⟩) 30)=X0 at *
 generalize w2.heap.size=ob at *
 have G0:Hid (aN w2 w1.heap.size ⟨⟨cg,bO,aC⟩,⟨bu,bx,aD⟩,⟨ch,cj,aK⟩,⟨bA,fn',aE⟩,⟨bB,bC,aF⟩⟩ cu X0 ob ⟨⟨cg,bO,aC⟩,⟨bu,bx,aD⟩,⟨ch,cj,aK⟩,⟨bA,fn',aE⟩,⟨bB,bC,aF⟩⟩ cu s):=g0
 clear g0 k1 k2 eS
 have Au:IntKind.i64.wrap ((rn:Int)+s.az)=(rn:Int)+s.az:=Go.IntWalk.i64_in _ (by omega)
 obtain ⟨tb,ij⟩:∃ b,Hid (g9 s=b):=⟨_,rfl⟩
 go_cut [32] (fun c wx=>c = .bool (!tb) /\ wx=X0)
 case first =>
  cases c1:(s.now==100000)
  rotate_left
  ·have hr:tb=false:=by rw [<- ij.out];unfold g9;rw [hb,c1];rfl
   go_wp2
   go_meet
   exact ⟨by rw [hr];rfl,rfl⟩
  cases c2:decide (900000 < s.seq)
  rotate_left
  ·have hr:tb=false:=by rw [<- ij.out];unfold g9;rw [hb,c1,c2];rfl
   have c2':900000 < s.seq:=by simpa using c2
   clear c2
   go_wp2
   go_meet
   exact ⟨by rw [hr];rfl,rfl⟩
  have hr:tb = !decide (400 < (rn:Int)+s.az):=by rw [<- ij.out];unfold g9;rw [hb,c1,c2,Hrl.out];rfl
  have c2':¬ 900000 < s.seq:=by simpa using c2
  go_wp2
  go_meet
  exact ⟨by rw [hr,Bool.not_not],rfl⟩
 case rest =>
 obtain ⟨rfl,hwc⟩:=hcut
 have vd:=hwc.symm
 subst vd
 cases tb
 ·clear Au
  have HT:Hid (dF s=s):=by show _=_;unfold dF;rw [ij.out,hb];rfl
  have KX:aa Z X0:=G0.out.ep O2.out kM.out hZ1.out
  obtain ⟨_,o1,o2⟩:=G0.out.var.box
  dsimp only [ae] at o1
  obtain ⟨_,r1,r2⟩:=R0.out.keeps KX
  go_wp2
  have D:=(R0.out.keeps KX).putC (ae (s:Sy) ⟨⟨cg,bO,aC⟩,⟨bu,bx,aD⟩,⟨ch,cj,aK⟩,⟨bA,fn',aE⟩,⟨bB,bC,aF⟩⟩).toList rfl
  have KQ:=aa.putC (b:=w.heap.size+1) (by omega) (ae (s:Sy) ⟨⟨cg,bO,aC⟩,⟨bu,bx,aD⟩,⟨ch,cj,aK⟩,⟨bA,fn',aE⟩,⟨bB,bC,aF⟩⟩).toList 0 (kZ.trans KX)
  have SQ:ay (putC X0 (w.heap.size+1) 0 (ae (s:Sy) ⟨⟨cg,bO,aC⟩,⟨bu,bx,aD⟩,⟨ch,cj,aK⟩,⟨bA,fn',aE⟩,⟨bB,bC,aF⟩⟩).toList) w.heap.size ⟨⟨cg,bO,aC⟩,⟨bu,bx,aD⟩,⟨ch,cj,aK⟩,⟨bA,fn',aE⟩,⟨bB,bC,aF⟩⟩ cu (s):=(ay.aT (c:=w.heap.size+1) (fun i hi=>by have:=(G0.out.var.own.aG hi).1;have:=hz.out;have:=hZ1.out;omega) _ _ G0.out.var.own).base (by have:=hz.out;have:=hZ1.out;omega)
  change bodyPost _ _ _ _ _ (putC X0 (w.heap.size+1) 0 (ae (s:Sy) ⟨⟨cg,bO,aC⟩,⟨bu,bx,aD⟩,⟨ch,cj,aK⟩,⟨bA,fn',aE⟩,⟨bB,bC,aF⟩⟩).toList)
  generalize putC X0 (w.heap.size+1) 0 (ae (s:Sy) ⟨⟨cg,bO,aC⟩,⟨bu,bx,aD⟩,⟨ch,cj,aK⟩,⟨bA,fn',aE⟩,⟨bB,bC,aF⟩⟩).toList=Q at D KQ SQ ⊢
  exact bodyPost_ret (v := .tuple #[.agg (ae (s:Sy) ⟨⟨cg,bO,aC⟩,⟨bu,bx,aD⟩,⟨ch,cj,aK⟩,⟨bA,fn',aE⟩,⟨bB,bC,aF⟩⟩),.bool false]) (by simp [results,Tryz.results146,go_sem,D.cells]) rfl (by rw [HT.out,ij.out];first | exact ⟨_,cu,rfl,SQ,KQ⟩ | exact ⟨_,rfl,⟨_,SQ⟩,KQ⟩)
 have hq2:s.seq <= 900000:=by
  have:=ij.out
  unfold g9 at this
  simp at this
  omega
 have hr2:(rn:Int)+s.az <= 400:=by
  have:=ij.out
  unfold g9 at this
  rw [Hrl.out] at this
  simp at this
  omega
 obtain ⟨_,o1,o2⟩:=G0.out.var.box
 dsimp only [ae] at o1
 go_upto_region 7 with fail
 have G1:Hid (aN w2 w1.heap.size ⟨⟨cg,bO,aC⟩,⟨bu,bx,aD⟩,⟨ch,cj,aK⟩,⟨bA,fn',aE⟩,⟨bB,bC,aF⟩⟩ cu (X0.setCell ⟨ob,4,none⟩ (.slice none 0 0)) ob ⟨⟨cg,bO,aC⟩,⟨bu,bx,aD⟩,⟨none,0,0⟩,⟨bA,fn',aE⟩,⟨bB,bC,aF⟩⟩ cu { s with af:=[] }):=G0.out.af (aa.refl _) (x:=⟨none,0,0⟩) (World.ownsRow_nil _ _ _ _) (World.grownBy.refl _ _) (fun q hq=>by simp [Value.ownBlock] at hq)
 clear o1 o2 G0 K0 Au
 generalize X0.setCell ⟨ob,4,none⟩ (.slice none 0 0)=X1 at *
 go_upto_block 0 with fail
 go_cut [] (fun wx=>∃ (a:Option Addr) (n c:Nat),Hid (aN w2 w1.heap.size ⟨⟨cg,bO,aC⟩,⟨bu,bx,aD⟩,⟨ch,cj,aK⟩,⟨bA,fn',aE⟩,⟨bB,bC,aF⟩⟩ cu wx ob ⟨⟨cg,bO,aC⟩,⟨bu,bx,aD⟩,⟨a,n,c⟩,⟨bA,fn',aE⟩,⟨bB,bC,aF⟩⟩ cu { s with af:=s.af.filter (fun g=>decide (s.now < g.eX)) }))
 case first=>as_aux_lemma =>
  go_wp2
  go_loopw [5] (fun i wr=>∃ (k:Nat) (a:Option Addr) (n c:Nat) (gs:List Gh),k <= gn /\ i = .int .i64 k /\ Hid (aN w2 w1.heap.size ⟨⟨cg,bO,aC⟩,⟨bu,bx,aD⟩,⟨ch,cj,aK⟩,⟨bA,fn',aE⟩,⟨bB,bC,aF⟩⟩ cu wr ob ⟨⟨cg,bO,aC⟩,⟨bu,bx,aD⟩,⟨a,n,c⟩,⟨bA,fn',aE⟩,⟨bB,bC,aF⟩⟩ cu { s with af:=gs }) /\ Hid (gs=(s.af.take k).filter (fun g=>decide (s.now < g.eX))) /\ gs.length <= k) (fun i _=>gn - (intOf i).toNat)
  case atStart=>exact ⟨0,none,0,0,[],Nat.zero_le _,rfl,G1,by show _=_;simp,by simp⟩
  case round =>
   obtain ⟨k,a,n,c,gs,hk,rfl,G,pX,hgs⟩:=hrel
   have KW:aa Z wr:=G.out.ep O2.out kM.out hZ1.out
   clear G1
   by_cases hlt:k < gn
   ·have hlt':(k:Int) < (gn:Int):=by omega
    obtain ⟨x,hx⟩:=cd (xs:=s.af) (k:=k) (by rw [vb.out];exact hlt)
    have hg0:Gs Z ga s.af:=HS.out.lay.g
    obtain ⟨gb,qw,rfl,q0,q1⟩:=hg0.at hx (by omega)
    have Hx:Hid (s.af[k]?=some x):=hx
    clear hx hg0
    go_upto_region 10 with fail
    refine wp_region_held_drew (S:=(fun w'=>aa Z w')) (by kernel_rfl) ?_ (fun hHeld => ?_)
    ·exact KW.drew
    refine ad.go [0,1,2,3,4,5,6,7,8] ?_
    iterate 9 (refine aM (h := ?_);try simp only [au])
    refine ad.nil ?_
    refine wpAnyH_done (by kernel_rfl) ?_ _
    cases c5:decide (s.now < x.eX)
    ·have HG:Hid (gs=(s.af.take (k+1)).filter (fun g=>decide (s.now < g.eX))):=by show _=_;rw [uh _ Hx.out,<- pX.out,c5];simp
     go_wp2
     exact ⟨⟨k+1,a,n,c,gs,by omega,by go_num,G.out.keeps (aa.refl _).drew,HG,by omega⟩,by simp only [intOf];omega⟩
    ·have KR:s.now < x.eX:=by simpa using c5
     have HG:Hid (gs++[x]=(s.af.take (k+1)).filter (fun g=>decide (s.now < g.eX))):=by show _=_;rw [uh _ Hx.out,<- pX.out,c5];simp
     go_upto_region 11 with fail
     have G2:Hid (aN w2 w1.heap.size ⟨⟨cg,bO,aC⟩,⟨bu,bx,aD⟩,⟨ch,cj,aK⟩,⟨bA,fn',aE⟩,⟨bB,bC,aF⟩⟩ cu wr.drew ob ⟨⟨cg,bO,aC⟩,⟨bu,bx,aD⟩,⟨a,n,c⟩,⟨bA,fn',aE⟩,⟨bB,bC,aF⟩⟩ cu { s with af:=gs }):=G.out.keeps (aa.refl _).drew
     have Av:aa Z wr.drew:=KW.drew
     clear G KW
     generalize wr.drew=X at *
     have H0:Hid (Has Z ob (ae ({ s with af:=gs }:Sy) ⟨⟨cg,bO,aC⟩,⟨bu,bx,aD⟩,⟨a,n,c⟩,⟨bA,fn',aE⟩,⟨bB,bC,aF⟩⟩) X):=⟨Av,G2.out.var.box⟩
     have e0:∀ w',Has Z ob (ae ({ s with af:=gs }:Sy) ⟨⟨cg,bO,aC⟩,⟨bu,bx,aD⟩,⟨a,n,c⟩,⟨bA,fn',aE⟩,⟨bB,bC,aF⟩⟩) w'->∀ j,w'.cell? ⟨ob,j,none⟩=(ae ({ s with af:=gs }:Sy) ⟨⟨cg,bO,aC⟩,⟨bu,bx,aD⟩,⟨a,n,c⟩,⟨bA,fn',aE⟩,⟨bB,bC,aF⟩⟩)[j]?:=fun w' hh=>hh.box.cells
     have e1:∀ w',Has Z ob (ae ({ s with af:=gs }:Sy) ⟨⟨cg,bO,aC⟩,⟨bu,bx,aD⟩,⟨a,n,c⟩,⟨bA,fn',aE⟩,⟨bB,bC,aF⟩⟩) w'->∀ j,w'.cell? ⟨w.heap.size,j,none⟩=_:=fun w' hh=>hb0 w' hh.keeps
     have e2:∀ w',Has Z ob (ae ({ s with af:=gs }:Sy) ⟨⟨cg,bO,aC⟩,⟨bu,bx,aD⟩,⟨a,n,c⟩,⟨bA,fn',aE⟩,⟨bB,bC,aF⟩⟩) w'->w'.cell? ⟨gb,qw+k*4,none⟩=_:=fun w' hh=>q0 w' hh.keeps
     have e3:∀ w',Has Z ob (ae ({ s with af:=gs }:Sy) ⟨⟨cg,bO,aC⟩,⟨bu,bx,aD⟩,⟨a,n,c⟩,⟨bA,fn',aE⟩,⟨bB,bC,aF⟩⟩) w'->∀ j,j < 4->w'.cell? ⟨gb,qw+k*4+j,none⟩=_:=fun w' hh=>q1 w' hh.keeps
     dsimp only [ae] at e0
     refine kt 10 (S:=(fun w'=>Has Z ob (ae ({ s with af:=gs }:Sy) ⟨⟨cg,bO,aC⟩,⟨bu,bx,aD⟩,⟨a,n,c⟩,⟨bA,fn',aE⟩,⟨bB,bC,aF⟩⟩) w')) (by kernel_rfl) ?_ (fun hHeld => ?_)
     ·exact H0.out.go (aa.refl _).drew
     refine ad.go [0,1,2,3,4,5,6] ?_
     iterate 7 (refine gN (h := ?_);try simp only [au])
     refine ad.nil ?_
     refine gy (i:=7) (h:=fun K hK => ?_)
     go_simp
     try go_wp2_with fail
     refine hK.out _ _ ?_ fun hHeld => ?_
     ·exact Has.go (by assumption) ((aa.refl _).alloc _)
     clear hK K
     try simp only [au]
     refine gy (i:=8) (h:=fun K hK => ?_)
     (refine mr rfl (.tmp 52) (.tmp 58) 26 rfl w1.heap.size 87 (.agg (cP Gh.zero)) 4 32 cP Tryz.underlying26 (by kernel_rfl) rfl (by decide) ia nR (.slice a n c) gs (by simp [Act.eval]) (G2.out.var.own.g.keeps ((aa.refl X).alloc _).drew) (by have:=G2.out.var.fu;have:=G2.out.var.box.lt;simp;omega) [x] _ 0 1 (nS ((aq.new X (cP x) 87).keeps (aa.refl _).drew)) (by simp [Act.eval]) (by simp [maxLen];omega) (by simp;omega) ?_;intro v7 w7 o7 g7 f7;obtain ⟨a7,c7,e7⟩:=o7.form ia;obtain ⟨m7,jy⟩:∃ m,Hid ((gs++[x]).length=m):=⟨_,rfl⟩;rw [jy.out] at e7;subst e7;have G3:Hid (aN w2 w1.heap.size ⟨⟨cg,bO,aC⟩,⟨bu,bx,aD⟩,⟨ch,cj,aK⟩,⟨bA,fn',aE⟩,⟨bB,bC,aF⟩⟩ cu (w7.setCell ⟨ob,4,none⟩ (.slice a7 m7 c7)) ob ⟨⟨cg,bO,aC⟩,⟨bu,bx,aD⟩,⟨a7,m7,c7⟩,⟨bA,fn',aE⟩,⟨bB,bC,aF⟩⟩ cu { s with af:=gs++[x] }):=G2.out.af ((aa.refl X).alloc _).drew (x:=⟨a7,m7,c7⟩) o7 g7 (fun q hq=>(f7 q hq).imp id (fun e=>by rw [e];simp)))
     refine hK.out _ _ ?_ fun hHeld => ?_
     ·exact ⟨aa.grown ((Av.alloc _).drew) g7 (fun q hq=>by have:=(G2.out.var.own.aG (i:=2) hq).1;have:=hZ1.out;omega),(G2.out.var.box.keeps ((aa.refl X).alloc _).drew).grown g7 (fun q e e2=>G2.out.var.far 2 (by rw [<- e2];exact e))⟩
     clear hK K
     try simp only [au]
     refine ad.go [9] ?_
     iterate 1 (refine gN (h := ?_);try simp only [au])
     refine ad.nil ?_
     refine ku (h:=fun K hK => ?_)
     have pZ:Has Z ob (ae ({ s with af:=gs }:Sy) ⟨⟨cg,bO,aC⟩,⟨bu,bx,aD⟩,⟨a,n,c⟩,⟨bA,fn',aE⟩,⟨bB,bC,aF⟩⟩) w7:=(by assumption);obtain ⟨_,z1,z2⟩:=pZ.box
     go_simp
     try go_wp2_with fail
     refine hK.out _ _ ?_
     clear hK K
     try simp only [au]
     clear z1 z2 pZ e0 e1 e2 e3 g7 o7 f7
     go_wp2
     exact ⟨⟨k+1,a7,m7,c7,gs++[x],by omega,by go_num,G3,HG,by simp;omega⟩,by simp only [intOf];omega⟩
   ·have e:k=gn:=by omega
    have HE:Hid (gs=s.af.filter (fun g=>decide (s.now < g.eX))):=by
     have h1:=pX.out
     rw [List.take_of_length_le (by have:=vb.out;omega)] at h1
     exact h1
    rw [HE.out] at G
    subst e
    go_wp2
    go_meet
    exact ⟨a,n,c,G⟩
 case rest =>
 obtain ⟨xa,xn,xc,G2⟩:=hcut
 clear G1
 go_upto_block 2 with fail
 go_cut [] (fun wx=>Hid (aN w2 w1.heap.size ⟨⟨cg,bO,aC⟩,⟨bu,bx,aD⟩,⟨ch,cj,aK⟩,⟨bA,fn',aE⟩,⟨bB,bC,aF⟩⟩ cu wx ob ⟨⟨cg,bO,aC⟩,⟨bu,bx,aD⟩,⟨xa,xn,xc⟩,⟨bA,fn',aE⟩,⟨bB,bC,aF⟩⟩ cu (fi s)))
 case first =>
  go_wp2
  go_loopw [6] (fun i wr=>∃ (k:Nat) (ms:Int) (ys:List ar),k <= bO /\ i = .int .i64 k /\ 0 <= ms /\ ms <= 100000 /\ Hid (aN w2 w1.heap.size ⟨⟨cg,bO,aC⟩,⟨bu,bx,aD⟩,⟨ch,cj,aK⟩,⟨bA,fn',aE⟩,⟨bB,bC,aF⟩⟩ cu wr ob ⟨⟨cg,bO,aC⟩,⟨bu,bx,aD⟩,⟨xa,xn,xc⟩,⟨bA,fn',aE⟩,⟨bB,bC,aF⟩⟩ cu { s with af:=s.af.filter (fun g=>decide (s.now < g.eX)),missed:=ms,tasks:=ys }) /\ Hid (ms=(s.tasks.take k).foldl (jG s.now) s.missed) /\ Hid (ys.length=bO) /\ Hid (∀ (j:Nat) (t:ar),s.tasks[j]?=some t->ys[j]?=some (if j < k then iF s.now t else t))) (fun i _=>bO - (intOf i).toNat)
  case atStart=>exact ⟨0,s.missed,s.tasks,Nat.zero_le _,rfl,hm0,hm1,G2,by show _=_;simp,kD,fun j t hj=>by simpa using hj⟩
  case round =>
   obtain ⟨k,ms,ys,hk,rfl,nA,nB,G,oP,hy,hf⟩:=hrel
   have KW:aa Z wr:=G.out.ep O2.out kM.out hZ1.out
   clear G2
   by_cases hlt:k < bO
   ·have hlt':(k:Int) < (bO:Int):=by omega
    obtain ⟨t,ht⟩:=cd (xs:=s.tasks) (k:=k) (by rw [kD.out];exact hlt)
    have HT:Hid (s.tasks[k]?=some t):=ht
    have Hy:Hid (ys[k]?=some t):=by have:=hf.out k t ht;rw [if_neg (by omega)] at this;exact this
    obtain ⟨rb,hrb⟩:=G.out.var.own.aW (k:=k) (by show _ < ys.length;rw [hy.out];exact hlt)
    dsimp only at hrb
    subst hrb
    have b0:∀ w',aa wr w'->∀ j,w'.cell? ⟨ob,j,none⟩=(ae ({ s with af:=s.af.filter (fun g=>decide (s.now < g.eX)),missed:=ms,tasks:=ys }:Sy) ⟨⟨some ⟨rb,0,none⟩,bO,aC⟩,⟨bu,bx,aD⟩,⟨xa,xn,xc⟩,⟨bA,fn',aE⟩,⟨bB,bC,aF⟩⟩)[j]?:=fun w' kk=>(G.out.var.box.keeps kk).cells
    have b1:∀ w',aa wr w'->∀ j,w'.cell? ⟨w.heap.size,j,none⟩=_:=fun w' kk=>hb0 w' (KW.trans kk)
    have kj:rb < wr.heap.size:=(G.out.var.own.aG (i:=0) (b:=rb) rfl).2
    have zz:=(G.out.var.own.aJ (rb:=rb) rfl (k:=k) (t:=t) Hy.out).1
    have b2:∀ w',aa wr w'->∀ j,j < 14->w'.cell? ⟨rb,k*14+j,none⟩=(tc t)[j]?:=fun w' kk j hj=>(kk.cells rb _ kj).trans (zz j hj)
    have b3:∀ w',aa wr w'->w'.cell? ⟨rb,k*14,none⟩=some (.int .i64 t.no):=fun w' kk=>b2 w' kk 0 (by omega)
    have b4:∀ w',aa wr w'->∀ j,w'.frozen? ⟨ob,j,none⟩=false:=fun w' kk j=>(G.out.var.box.keeps kk).aO j
    have qx:ob < wr.heap.size:=G.out.var.box.lt
    have qy:ob≠wr.heap.size:=by omega
    have qz:w.heap.size < wr.heap.size:=by have:=KW.size;have:=hz.out;omega
    have qA:w.heap.size≠wr.heap.size:=by omega
    dsimp only [ae] at b0
    clear ht zz
    cases c1:(t.cls != 1)
    rotate_left
    ·have c1':(t.cls==1)=false:=by simpa [bne] using c1
     have jv:Hid (kK s.now t=false):=by show _=_;unfold kK;rw [c1'];rfl
     have HM:Hid (ms=(s.tasks.take (k+1)).foldl (jG s.now) s.missed):=by show _=_;rw [jd HT.out,List.foldl_append,<- oP.out];simp [jG,jv.out]
     go_wp2
     refine ⟨⟨k+1,ms,ys,by omega,by go_num,nA,nB,G.out.keeps ((aa.refl _).alloc _),HM,hy,?_⟩,by simp only [intOf];omega⟩
     intro j t2 hj
     by_cases e:j=k
     ·subst e
      rw [HT.out] at hj
      cases hj
      rw [if_pos (by omega)]
      rw [show iF s.now t=t from by unfold iF;rw [jv.out];rfl];have:=hf.out j t HT.out;rw [if_neg (by omega)] at this;exact this
     ·have:=hf.out j t2 hj
      by_cases h3:j < k
      ·rw [if_pos h3] at this;rw [if_pos (by omega)];first | exact this | (rw [List.getElem?_set_ne (Ne.symm e)];exact this)
      ·rw [if_neg h3] at this;rw [if_neg (by omega)];first | exact this | (rw [List.getElem?_set_ne (Ne.symm e)];exact this)
    have c1':(t.cls==1)=true:=by simpa [bne] using c1
    cases c2:t.idle
    rotate_left
    ·skip
     have jv:Hid (kK s.now t=false):=by show _=_;unfold kK;rw [c1',c2];rfl
     have HM:Hid (ms=(s.tasks.take (k+1)).foldl (jG s.now) s.missed):=by show _=_;rw [jd HT.out,List.foldl_append,<- oP.out];simp [jG,jv.out]
     go_wp2
     refine ⟨⟨k+1,ms,ys,by omega,by go_num,nA,nB,G.out.keeps ((aa.refl _).alloc _),HM,hy,?_⟩,by simp only [intOf];omega⟩
     intro j t2 hj
     by_cases e:j=k
     ·subst e
      rw [HT.out] at hj
      cases hj
      rw [if_pos (by omega)]
      rw [show iF s.now t=t from by unfold iF;rw [jv.out];rfl];have:=hf.out j t HT.out;rw [if_neg (by omega)] at this;exact this
     ·have:=hf.out j t2 hj
      by_cases h3:j < k
      ·rw [if_pos h3] at this;rw [if_pos (by omega)];first | exact this | (rw [List.getElem?_set_ne (Ne.symm e)];exact this)
      ·rw [if_neg h3] at this;rw [if_neg (by omega)];first | exact this | (rw [List.getElem?_set_ne (Ne.symm e)];exact this)
    cases c3:decide (s.now < t.due)
    rotate_left
    ·have c3':s.now < t.due:=by simpa using c3
     have kl:decide (t.due <= s.now)=false:=by simp;omega
     have jv:Hid (kK s.now t=false):=by show _=_;unfold kK;rw [c1',c2,kl];rfl
     have HM:Hid (ms=(s.tasks.take (k+1)).foldl (jG s.now) s.missed):=by show _=_;rw [jd HT.out,List.foldl_append,<- oP.out];simp [jG,jv.out]
     go_wp2
     refine ⟨⟨k+1,ms,ys,by omega,by go_num,nA,nB,G.out.keeps ((aa.refl _).alloc _),HM,hy,?_⟩,by simp only [intOf];omega⟩
     intro j t2 hj
     by_cases e:j=k
     ·subst e
      rw [HT.out] at hj
      cases hj
      rw [if_pos (by omega)]
      rw [show iF s.now t=t from by unfold iF;rw [jv.out];rfl];have:=hf.out j t HT.out;rw [if_neg (by omega)] at this;exact this
     ·have:=hf.out j t2 hj
      by_cases h3:j < k
      ·rw [if_pos h3] at this;rw [if_pos (by omega)];first | exact this | (rw [List.getElem?_set_ne (Ne.symm e)];exact this)
      ·rw [if_neg h3] at this;rw [if_neg (by omega)];first | exact this | (rw [List.getElem?_set_ne (Ne.symm e)];exact this)
    have kl:decide (t.due <= s.now)=true:=by simp at c3;simp;omega
    have Aw:¬ s.now < t.due:=by simpa using c3
    have jv:Hid (kK s.now t=true):=by show _=_;unfold kK;rw [c1',c2,kl];rfl
    have eT:({ t with idle:=false }:ar)=t:=by rw [<- c2]
    have FT:Hid (∀ i,¬ aX ⟨⟨some ⟨rb,0,none⟩,bO,aC⟩,⟨bu,bx,aD⟩,⟨xa,xn,xc⟩,⟨bA,fn',aE⟩,⟨bB,bC,aF⟩⟩ cu i wr.heap.size):=fun i hi=>by have:=(G.out.var.own.aG hi).2;omega
    have Jk:IntKind.i64.wrap (ms+1)=ms+1:=Go.IntWalk.i64_in _ (by omega)
    cases c4:decide (0 < t.left)
    ·have mf:¬ 0 < t.left:=by simpa using c4
     go_upto_region 19 with fail
     have GX:Hid (aN w2 w1.heap.size ⟨⟨some ⟨rb,0,none⟩,bO,aC⟩,⟨bu,bx,aD⟩,⟨ch,cj,aK⟩,⟨bA,fn',aE⟩,⟨bB,bC,aF⟩⟩ cu (wr.alloc (.cells (tc { t with idle:=false }) 43)) ob ⟨⟨some ⟨rb,0,none⟩,bO,aC⟩,⟨bu,bx,aD⟩,⟨xa,xn,xc⟩,⟨bA,fn',aE⟩,⟨bB,bC,aF⟩⟩ cu { s with af:=s.af.filter (fun g=>decide (s.now < g.eX)),missed:=ms,tasks:=ys }):=G.out.keeps ((aa.refl _).alloc _)
     have nC:aq (wr.alloc (.cells (tc { t with idle:=false }) 43)) wr.heap.size (tc { t with idle:=false }):=aq.new _ _ _
     change Code.wp _ _ _ _ (wr.alloc (.cells (tc { t with idle:=false }) 43))
     clear b0 b1 b2 b3 b4 qy qA qx qz kj G KW
     generalize wr.alloc (.cells (tc { t with idle:=false }) 43)=X1 at *
     generalize wr.heap.size=tb at *
     rw [eT] at nC
     have TX:Hid (aq X1 tb (tc t)):=nC
     clear nC eT c2 c1 c1' c3 kl Aw mf
     have KX:aa Z X1:=GX.out.ep O2.out kM.out hZ1.out
     have e0:∀ w',aa X1 w'->∀ j,w'.cell? ⟨ob,j,none⟩=(ae ({ s with af:=s.af.filter (fun g=>decide (s.now < g.eX)),missed:=ms,tasks:=ys }:Sy) ⟨⟨some ⟨rb,0,none⟩,bO,aC⟩,⟨bu,bx,aD⟩,⟨xa,xn,xc⟩,⟨bA,fn',aE⟩,⟨bB,bC,aF⟩⟩)[j]?:=fun w' kk=>(GX.out.var.box.keeps kk).cells
     have e1:∀ w',aa X1 w'->∀ j,w'.cell? ⟨w.heap.size,j,none⟩=_:=fun w' kk=>hb0 w' (KX.trans kk)
     have e2:∀ w',aa X1 w'->∀ j,w'.cell? ⟨tb,j,none⟩=(tc t)[j]?:=fun w' kk=>(TX.out.keeps kk).cells
     dsimp only [ae] at e0
     obtain ⟨NT,iQ⟩:∃ N,Hid (jk t s.now=N):=⟨_,rfl⟩
     refine kt 8 (S:=(fun w'=>aa X1 w')) (by kernel_rfl) ?_ (fun hHeld => ?_)
     ·exact (aa.refl X1).drew
     refine ad.go [0,1,2,3,4,5] ?_
     iterate 6 (refine gN (h := ?_);try simp only [au])
     refine ad.nil ?_
     refine gy (i:=6) (h:=fun K hK => ?_)
     go_simp
     (go_at_call 176;refine (xd t s.now _).mono ?_;rintro e w8 ⟨rfl,k8⟩;rw [iQ.out])
     try go_wp2_with fail
     refine hK.out _ _ ?_ fun hHeld => ?_
     ·exact aa.trans (by assumption) (by assumption)
     clear hK K
     try simp only [au]
     refine ad.go [7] ?_
     iterate 1 (refine gN (h := ?_);try simp only [au])
     refine ad.nil ?_
     refine ku (h:=fun K hK => ?_)
     have K8:aa X1 w8:=(by assumption);have G8:=GX.out.keeps K8;obtain ⟨z1,z2⟩:=G8.var.own.aJ (rb:=rb) rfl (k:=k) (t:=t) Hy.out;have y0:w8.cell? ⟨rb,k*14,none⟩=some (.int .i64 t.no):=z1 0 (by omega)
     go_simp
     try go_wp2_with fail
     refine hK.out _ _ ?_
     clear hK K
     try simp only [au]
     have G9:Hid (aN w2 w1.heap.size ⟨⟨some ⟨rb,0,none⟩,bO,aC⟩,⟨bu,bx,aD⟩,⟨ch,cj,aK⟩,⟨bA,fn',aE⟩,⟨bB,bC,aF⟩⟩ cu (putC w8 rb (k*14) (tc NT).toList) ob ⟨⟨some ⟨rb,0,none⟩,bO,aC⟩,⟨bu,bx,aD⟩,⟨xa,xn,xc⟩,⟨bA,fn',aE⟩,⟨bB,bC,aF⟩⟩ cu { s with af:=s.af.filter (fun g=>decide (s.now < g.eX)),missed:=ms,tasks:=ys.set k NT }):=G8.task (rb:=rb) rfl (by show _ < ys.length;rw [hy.out];exact hlt) NT
     change Exit.inBlock _ _ _ _ (putC w8 rb (k*14) (tc NT).toList)
     clear z1 z2 y0 G8 K8 e0 e1 e2 hHeld
     generalize putC w8 rb (k*14) (tc NT).toList=X9 at *
     have HM:Hid (ms=(s.tasks.take (k+1)).foldl (jG s.now) s.missed):=by show _=_;rw [jd HT.out,List.foldl_append,<- oP.out];simp [jG,jv.out,c4]
     go_wp2
     refine ⟨⟨k+1,ms,ys.set k NT,by omega,by go_num,by omega,by omega,G9,HM,by show _=_;simpa using hy.out,?_⟩,by simp only [intOf];omega⟩
     intro j t2 hj
     by_cases e:j=k
     ·subst e
      rw [HT.out] at hj
      cases hj
      rw [if_pos (by omega)]
      rw [show iF s.now t=NT from by unfold iF;rw [jv.out,<- iQ.out];rfl];exact List.getElem?_set_self (by rw [hy.out];exact hlt)
     ·have:=hf.out j t2 hj
      by_cases h3:j < k
      ·rw [if_pos h3] at this;rw [if_pos (by omega)];first | exact this | (rw [List.getElem?_set_ne (Ne.symm e)];exact this)
      ·rw [if_neg h3] at this;rw [if_neg (by omega)];first | exact this | (rw [List.getElem?_set_ne (Ne.symm e)];exact this)
    ·have mf:0 < t.left:=by simpa using c4
     go_upto_region 19 with (go_at_call 109;refine (fS _ _ _).mono ?_;rintro e w' ⟨rfl,hw'⟩;have hw2:=hw'.symm;subst hw2)
     have GX:Hid (aN w2 w1.heap.size ⟨⟨some ⟨rb,0,none⟩,bO,aC⟩,⟨bu,bx,aD⟩,⟨ch,cj,aK⟩,⟨bA,fn',aE⟩,⟨bB,bC,aF⟩⟩ cu ((wr.setCell ⟨ob,7,none⟩ (.int .i64 (min (ms+1) 100000))).alloc (.cells (tc { t with idle:=false }) 43)) ob ⟨⟨some ⟨rb,0,none⟩,bO,aC⟩,⟨bu,bx,aD⟩,⟨xa,xn,xc⟩,⟨bA,fn',aE⟩,⟨bB,bC,aF⟩⟩ cu { s with af:=s.af.filter (fun g=>decide (s.now < g.eX)),missed:=min (ms+1) 100000,tasks:=ys }):=(G.out.num s.now s.az s.seq (min (ms+1) 100000) (k:=7) rfl (by omega)).keeps ((aa.refl _).alloc _)
     have nC:aq ((wr.setCell ⟨ob,7,none⟩ (.int .i64 (min (ms+1) 100000))).alloc (.cells (tc { t with idle:=false }) 43)) wr.heap.size (tc { t with idle:=false }):=by have:=aq.new (wr.setCell ⟨ob,7,none⟩ (.int .i64 (min (ms+1) 100000))) (tc { t with idle:=false }) 43;simpa using this
     change Code.wp _ _ _ _ ((wr.setCell ⟨ob,7,none⟩ (.int .i64 (min (ms+1) 100000))).alloc (.cells (tc { t with idle:=false }) 43))
     clear b0 b1 b2 b3 b4 qy qA qx qz kj G KW
     generalize (wr.setCell ⟨ob,7,none⟩ (.int .i64 (min (ms+1) 100000))).alloc (.cells (tc { t with idle:=false }) 43)=X1 at *
     generalize wr.heap.size=tb at *
     rw [eT] at nC
     have TX:Hid (aq X1 tb (tc t)):=nC
     obtain ⟨mm,r5⟩:∃ mm,Hid (min (ms+1) 100000=mm):=⟨_,rfl⟩
     have Jl:0 <= mm:=by have:=r5.out;omega
     have Jm:mm <= 100000:=by have:=r5.out;omega
     rw [r5.out] at GX
     clear nC eT c2 c1 c1' c3 kl Aw mf
     have KX:aa Z X1:=GX.out.ep O2.out kM.out hZ1.out
     have e0:∀ w',aa X1 w'->∀ j,w'.cell? ⟨ob,j,none⟩=(ae ({ s with af:=s.af.filter (fun g=>decide (s.now < g.eX)),missed:=mm,tasks:=ys }:Sy) ⟨⟨some ⟨rb,0,none⟩,bO,aC⟩,⟨bu,bx,aD⟩,⟨xa,xn,xc⟩,⟨bA,fn',aE⟩,⟨bB,bC,aF⟩⟩)[j]?:=fun w' kk=>(GX.out.var.box.keeps kk).cells
     have e1:∀ w',aa X1 w'->∀ j,w'.cell? ⟨w.heap.size,j,none⟩=_:=fun w' kk=>hb0 w' (KX.trans kk)
     have e2:∀ w',aa X1 w'->∀ j,w'.cell? ⟨tb,j,none⟩=(tc t)[j]?:=fun w' kk=>(TX.out.keeps kk).cells
     dsimp only [ae] at e0
     obtain ⟨NT,iQ⟩:∃ N,Hid (jk t s.now=N):=⟨_,rfl⟩
     refine kt 8 (S:=(fun w'=>aa X1 w')) (by kernel_rfl) ?_ (fun hHeld => ?_)
     ·exact (aa.refl X1).drew
     refine ad.go [0,1,2,3,4,5] ?_
     iterate 6 (refine gN (h := ?_);try simp only [au])
     refine ad.nil ?_
     refine gy (i:=6) (h:=fun K hK => ?_)
     go_simp
     (go_at_call 176;refine (xd t s.now _).mono ?_;rintro e w8 ⟨rfl,k8⟩;rw [iQ.out])
     try go_wp2_with fail
     refine hK.out _ _ ?_ fun hHeld => ?_
     ·exact aa.trans (by assumption) (by assumption)
     clear hK K
     try simp only [au]
     refine ad.go [7] ?_
     iterate 1 (refine gN (h := ?_);try simp only [au])
     refine ad.nil ?_
     refine ku (h:=fun K hK => ?_)
     have K8:aa X1 w8:=(by assumption);have G8:=GX.out.keeps K8;obtain ⟨z1,z2⟩:=G8.var.own.aJ (rb:=rb) rfl (k:=k) (t:=t) Hy.out;have y0:w8.cell? ⟨rb,k*14,none⟩=some (.int .i64 t.no):=z1 0 (by omega)
     go_simp
     try go_wp2_with fail
     refine hK.out _ _ ?_
     clear hK K
     try simp only [au]
     have G9:Hid (aN w2 w1.heap.size ⟨⟨some ⟨rb,0,none⟩,bO,aC⟩,⟨bu,bx,aD⟩,⟨ch,cj,aK⟩,⟨bA,fn',aE⟩,⟨bB,bC,aF⟩⟩ cu (putC w8 rb (k*14) (tc NT).toList) ob ⟨⟨some ⟨rb,0,none⟩,bO,aC⟩,⟨bu,bx,aD⟩,⟨xa,xn,xc⟩,⟨bA,fn',aE⟩,⟨bB,bC,aF⟩⟩ cu { s with af:=s.af.filter (fun g=>decide (s.now < g.eX)),missed:=mm,tasks:=ys.set k NT }):=G8.task (rb:=rb) rfl (by show _ < ys.length;rw [hy.out];exact hlt) NT
     change Exit.inBlock _ _ _ _ (putC w8 rb (k*14) (tc NT).toList)
     clear z1 z2 y0 G8 K8 e0 e1 e2 hHeld
     generalize putC w8 rb (k*14) (tc NT).toList=X9 at *
     have HM:Hid (mm=(s.tasks.take (k+1)).foldl (jG s.now) s.missed):=by show _=_;rw [jd HT.out,List.foldl_append,<- oP.out];simp [jG,jv.out,c4,r5.out]
     go_wp2
     refine ⟨⟨k+1,mm,ys.set k NT,by omega,by go_num,by omega,by omega,G9,HM,by show _=_;simpa using hy.out,?_⟩,by simp only [intOf];omega⟩
     intro j t2 hj
     by_cases e:j=k
     ·subst e
      rw [HT.out] at hj
      cases hj
      rw [if_pos (by omega)]
      rw [show iF s.now t=NT from by unfold iF;rw [jv.out,<- iQ.out];rfl];exact List.getElem?_set_self (by rw [hy.out];exact hlt)
     ·have:=hf.out j t2 hj
      by_cases h3:j < k
      ·rw [if_pos h3] at this;rw [if_pos (by omega)];first | exact this | (rw [List.getElem?_set_ne (Ne.symm e)];exact this)
      ·rw [if_neg h3] at this;rw [if_neg (by omega)];first | exact this | (rw [List.getElem?_set_ne (Ne.symm e)];exact this)
   ·have e:k=bO:=by omega
    subst e
    have HE:Hid ({ s with af:=s.af.filter (fun g=>decide (s.now < g.eX)),missed:=ms,tasks:=ys }=fi s):=by
     show _=_
     have h1:=oP.out
     rw [List.take_of_length_le (by have:=kD.out;omega)] at h1
     have h2:ys=s.tasks.map (iF s.now):=by
      apply List.ext_getElem?
      intro j
      rw [List.getElem?_map]
      cases e:s.tasks[j]? with
      | none =>
       have:s.tasks.length <= j:=List.getElem?_eq_none_iff.1 e
       rw [List.getElem?_eq_none (by rw [hy.out,<- kD.out];exact this)];rfl
      | some t =>
       have h3:=hf.out j t e
       rw [if_pos (by have:=cZ e;have:=kD.out;omega)] at h3
       exact h3
     unfold fi
     rw [<- h1,h2]
    rw [HE.out] at G
    have Jn:=G.out.var.box.cells
    dsimp only [ae,fi] at Jn
    go_wp2
    go_meet
    exact G
 case rest =>
 have G3:Hid (aN w2 w1.heap.size ⟨⟨cg,bO,aC⟩,⟨bu,bx,aD⟩,⟨ch,cj,aK⟩,⟨bA,fn',aE⟩,⟨bB,bC,aF⟩⟩ cu wc ob ⟨⟨cg,bO,aC⟩,⟨bu,bx,aD⟩,⟨xa,xn,xc⟩,⟨bA,fn',aE⟩,⟨bB,bC,aF⟩⟩ cu (fi s)):=hcut
 clear hcut G2
 have hAs:bE (fi s) <= 1500:=Nat.le_trans (Ao s) hsm
 have Ax:Hid (oz (fi s)):=Jg HR.out.jZ
 have HA1:Hid ((fi s).az=s.az):=rfl
 have HA2:Hid ((fi s).seq=s.seq):=rfl
 have Ay:Hid ((fi s).now=s.now):=rfl
 have Az:Hid ((fi s).ax.length=fn'):=vc.out
 have HAT:Hid (dF s=pP (eh (gh (eY (fi s))) s.az.toNat)):=by show _=_;unfold dF;rw [ij.out];rfl
 generalize fi s=A at *
 obtain ⟨_,o1,o2⟩:=G3.out.var.box
 dsimp only [ae] at o1
 go_wp2_with fail
 refine (Jo (G3.out.var.own.on (by omega)) Ax.out).mono ?_
 rintro e w4 ⟨vw,oQ,rfl,O4,k4⟩
 obtain ⟨⟨jJ,jK,d7⟩,⟨jL,jM,d8⟩,⟨jN,jO,eb⟩,⟨fa4,fT,ec⟩,⟨jP,jQ,ed⟩⟩:=vw
 have g4:=G3.out.put (Goes.fresh O4 k4 (by have:=G3.out.var.fu;have:=G3.out.var.box.lt;omega))
 have q4:=(G3.out.var.box.keeps k4)
 obtain ⟨_,q1,q2⟩:=q4
 dsimp only [ae] at q1
 clear o1 o2 O4 k4
 go_upto_block 4 with fail
 have G4:Hid (aN w2 w1.heap.size ⟨⟨cg,bO,aC⟩,⟨bu,bx,aD⟩,⟨ch,cj,aK⟩,⟨bA,fn',aE⟩,⟨bB,bC,aF⟩⟩ cu (putC w4 ob 0 (ae (eY A) ⟨⟨jJ,jK,d7⟩,⟨jL,jM,d8⟩,⟨jN,jO,eb⟩,⟨fa4,fT,ec⟩,⟨jP,jQ,ed⟩⟩).toList) ob ⟨⟨jJ,jK,d7⟩,⟨jL,jM,d8⟩,⟨jN,jO,eb⟩,⟨fa4,fT,ec⟩,⟨jP,jQ,ed⟩⟩ oQ (eY A)):=g4
 change Code.wp _ _ _ _ (putC w4 ob 0 (ae (eY A) ⟨⟨jJ,jK,d7⟩,⟨jL,jM,d8⟩,⟨jN,jO,eb⟩,⟨fa4,fT,ec⟩,⟨jP,jQ,ed⟩⟩).toList)
 clear g4 q1 q2 G3
 generalize putC w4 ob 0 (ae (eY A) ⟨⟨jJ,jK,d7⟩,⟨jL,jM,d8⟩,⟨jN,jO,eb⟩,⟨fa4,fT,ec⟩,⟨jP,jQ,ed⟩⟩).toList=X4 at *
 have hWs:bE (eY A) <= 1500:=by rw [Ap];exact hAs
 have HW1:Hid ((eY A).az=s.az):=HA1.out
 have HW2:Hid ((eY A).seq=s.seq):=HA2.out
 have HW3:Hid ((eY A).now=s.now):=Ay.out
 have oR:Hid ((eY A).ax.length=fT):=(G4.out.var.own.f.row fq).1
 have AA:Hid ((fT:Int)=s.az):=by show _=_;rw [<- oR.out,show (eY A).ax.length=fn' from Az.out,<- vc.out];exact HR.out.ax
 generalize eY A=W at *
 clear hAs Ax HA1 HA2 Ay Az
 go_cut [] (fun wx=>Hid (aN w2 w1.heap.size ⟨⟨cg,bO,aC⟩,⟨bu,bx,aD⟩,⟨ch,cj,aK⟩,⟨bA,fn',aE⟩,⟨bB,bC,aF⟩⟩ cu wx ob ⟨⟨jJ,jK,d7⟩,⟨jL,jM,d8⟩,⟨jN,jO,eb⟩,⟨fa4,fT,ec⟩,⟨jP,jQ,ed⟩⟩ oQ (gh W)))
 case first=>as_aux_lemma =>
  have KS:fT <= 4:=by have:=AA.out;omega
  go_wp2
  go_loopw [8] (fun i wr=>∃ (k:Nat) (fs:List Int),k <= fT /\ i = .int .i64 k /\ Hid (aN w2 w1.heap.size ⟨⟨cg,bO,aC⟩,⟨bu,bx,aD⟩,⟨ch,cj,aK⟩,⟨bA,fn',aE⟩,⟨bB,bC,aF⟩⟩ cu wr ob ⟨⟨jJ,jK,d7⟩,⟨jL,jM,d8⟩,⟨jN,jO,eb⟩,⟨fa4,fT,ec⟩,⟨jP,jQ,ed⟩⟩ oQ { W with ax:=fs }) /\ Hid (fs.length=fT) /\ Hid (∀ (j:Nat) (x:Int),W.ax[j]?=some x->fs[j]?=some (if j < k then lV (lY W j) x else x))) (fun i _=>fT - (intOf i).toNat)
  case atStart=>exact ⟨0,W.ax,Nat.zero_le _,rfl,G4,oR,fun j x hj=>by simpa using hj⟩
  case round =>
   obtain ⟨k,fs,hk,rfl,G,hy,hf⟩:=hrel
   clear G4
   have b0:∀ w',aa wr w'->∀ j,w'.cell? ⟨ob,j,none⟩=(ae ({ W with ax:=fs }:Sy) ⟨⟨jJ,jK,d7⟩,⟨jL,jM,d8⟩,⟨jN,jO,eb⟩,⟨fa4,fT,ec⟩,⟨jP,jQ,ed⟩⟩)[j]?:=fun w' kk=>(G.out.var.box.keeps kk).cells
   dsimp only [ae] at b0
   have fv:W.az=(fT:Int):=by rw [HW1.out,AA.out]
   by_cases hlt:k < fT
   ·have hlt':(k:Int) < (fT:Int):=by omega
    obtain ⟨x,hx⟩:=cd (xs:=W.ax) (k:=k) (by rw [oR.out];exact hlt)
    have HX:Hid (W.ax[k]?=some x):=hx
    have Hy:Hid (fs[k]?=some x):=by have:=hf.out k x hx;rw [if_neg (by omega)] at this;exact this
    obtain ⟨fb,pw⟩:=G.out.var.own.gW (k:=k) (by show _ < fs.length;rw [hy.out];exact hlt)
    dsimp only at pw
    subst pw
    have fc:=G.out.var.own.eU (fb:=fb) rfl (k:=k) (x:=x) Hy.out
    have f0:∀ w',aa wr w'->w'.cell? ⟨fb,k,none⟩=some (.int .i64 x):=fun w' kk=>(kk.cells fb _ fc.2.2.1).trans fc.1
    have f1:∀ w',aa wr w'->w'.frozen? ⟨fb,k,none⟩=false:=fun w' kk=>(kk.aO fb _ fc.2.2.1).trans (fc.2.1 k)
    have ON:Hid (aA wr ⟨⟨jJ,jK,d7⟩,⟨jL,jM,d8⟩,⟨jN,jO,eb⟩,⟨some ⟨fb,0,none⟩,fT,ec⟩,⟨jP,jQ,ed⟩⟩ { W with ax:=fs }):=G.out.var.own.on (by have h1:=hy.out;have h2:=oR.out;unfold bE at hWs ⊢;dsimp only;omega)
    obtain ⟨ff,nf⟩:∃ z,Hid (lV (lY W k) x=z):=⟨_,rfl⟩
    obtain ⟨aw,ve⟩:∃ z,Hid (lY W k=z):=⟨_,rfl⟩
    rw [ve.out] at nf
    have CA:Hid (∀ w',aa wr w'->Calls Tryz.prog 179 #[.agg #[.int .i64 W.now,.int .i64 (fT:Int),.slice jJ jK d7,.slice jL jM d8,.slice jN jO eb,.slice (some ⟨fb,0,none⟩) fT ec,.int .i64 W.seq,.int .i64 W.missed,.slice jP jQ ed],.int .i64 k] w' fun e w''=>∃ u,e = .returned u /\ Own 43 14 tc w'' w'.heap.size u aw /\ aa w' w''):=fun w' kk=>by
     have h1:=Hu (ON.out.keeps kk) (k:Int)
     dsimp only [ae] at h1
     rw [fv] at h1
     refine h1.mono ?_
     rintro e w'' ⟨u,rfl,o,k'⟩
     exact ⟨u,rfl,by rw [<- ve.out];exact o,k'⟩
    simp only [fv] at b0
    clear hx fc fv
    go_upto_region 24 with fail
    refine kt 13 (S:=(fun w'=>aa wr w')) (by kernel_rfl) ?_ (fun hHeld => ?_)
    ·exact (aa.refl wr).drew
    refine ad.go [0,1,2,3,4,6,7,8,9,10] ?_
    iterate 10 (refine gN (h := ?_);try simp only [au])
    refine ad.nil ?_
    refine gy (i:=5) (h:=fun K hK => ?_)
    go_simp
    first
     | (go_at_call 179;refine (CA.out _ (aa.refl wr).drew).mono ?_;rintro e w5 ⟨u5,rfl,o5,k5⟩;obtain ⟨a5,c5,e5,l5,m5,qC⟩:=o5.slice cF;subst e5;have L5:Hid (Ts w5 a5 aw):=l5;have M5:Hid (aw.length <= maxLen):=Nat.le_trans m5 qC;clear o5 l5 m5 qC)
     | (go_at_call 178;refine (wQ a5 c5 aw x _ M5.out L5.out).mono ?_;rintro e w6 ⟨rfl,k6⟩;rw [nf.out])
    try go_wp2_with fail
    refine hK.out _ _ ?_ fun hHeld => ?_
    ·exact aa.trans (by assumption) (by assumption)
    clear hK K
    try simp only [au]
    refine gy (i:=11) (h:=fun K hK => ?_)
    go_simp
    first
     | (go_at_call 179;refine (CA.out _ (aa.refl wr).drew).mono ?_;rintro e w5 ⟨u5,rfl,o5,k5⟩;obtain ⟨a5,c5,e5,l5,m5,qC⟩:=o5.slice cF;subst e5;have L5:Hid (Ts w5 a5 aw):=l5;have M5:Hid (aw.length <= maxLen):=Nat.le_trans m5 qC;clear o5 l5 m5 qC)
     | (go_at_call 178;refine (wQ a5 c5 aw x _ M5.out L5.out).mono ?_;rintro e w6 ⟨rfl,k6⟩;rw [nf.out])
    try go_wp2_with fail
    refine hK.out _ _ ?_ fun hHeld => ?_
    ·exact aa.trans (by assumption) (by assumption)
    clear hK K
    try simp only [au]
    refine ad.go [12] ?_
    iterate 1 (refine gN (h := ?_);try simp only [au])
    refine ad.nil ?_
    refine ku (h:=fun K hK => ?_)
    have K6:aa wr w6:=(by assumption);have z1:=f0 w6 K6;have z2:=f1 w6 K6
    go_simp
    try go_wp2_with fail
    refine hK.out _ _ ?_
    clear hK K
    try simp only [au]
    have G9:Hid (aN w2 w1.heap.size ⟨⟨cg,bO,aC⟩,⟨bu,bx,aD⟩,⟨ch,cj,aK⟩,⟨bA,fn',aE⟩,⟨bB,bC,aF⟩⟩ cu (w6.setCell ⟨fb,k,none⟩ (.int .i64 ff)) ob ⟨⟨jJ,jK,d7⟩,⟨jL,jM,d8⟩,⟨jN,jO,eb⟩,⟨some ⟨fb,0,none⟩,fT,ec⟩,⟨jP,jQ,ed⟩⟩ oQ { W with ax:=fs.set k ff }):=(G.out.keeps K6).floor (fb:=fb) rfl Hy.out ff
    change Exit.inBlock _ _ _ _ (w6.setCell ⟨fb,k,none⟩ (.int .i64 ff))
    clear z1 z2 K6 b0 f0 f1 hHeld G
    generalize w6.setCell ⟨fb,k,none⟩ (.int .i64 ff)=X9 at *
    go_wp2
    refine ⟨⟨k+1,fs.set k ff,by omega,by go_num,G9,by show _=_;simpa using hy.out,?_⟩,by simp only [intOf];omega⟩
    intro j y hj
    by_cases e:j=k
    ·subst e
     rw [HX.out] at hj
     cases hj
     rw [if_pos (by omega),ve.out,nf.out]
     exact List.getElem?_set_self (by rw [hy.out];exact hlt)
    ·have:=hf.out j y hj
     rw [List.getElem?_set_ne (Ne.symm e),this]
     by_cases h3:j < k
     ·rw [if_pos h3,if_pos (by omega)]
     ·rw [if_neg h3,if_neg (by omega)]
   ·have e:k=fT:=by omega
    subst e
    have HE:Hid (({ W with ax:=fs }:Sy)=gh W):=by
     show _=_
     have h2:fs=W.ax.mapIdx fun c x=>lV (lY W c) x:=by
      apply List.ext_getElem?
      intro j
      rw [List.getElem?_mapIdx]
      cases e:W.ax[j]? with
      | none =>
       have:W.ax.length <= j:=List.getElem?_eq_none_iff.1 e
       rw [List.getElem?_eq_none (by rw [hy.out,<- oR.out];exact this)];rfl
      | some x =>
       have h3:=hf.out j x e
       rw [if_pos (by have:=cZ e;have:=oR.out;omega)] at h3
       exact h3
     unfold gh
     rw [h2]
    rw [HE.out] at G
    go_wp2
    go_meet
    exact G
 case rest =>
 have G5:Hid (aN w2 w1.heap.size ⟨⟨cg,bO,aC⟩,⟨bu,bx,aD⟩,⟨ch,cj,aK⟩,⟨bA,fn',aE⟩,⟨bB,bC,aF⟩⟩ cu wc ob ⟨⟨jJ,jK,d7⟩,⟨jL,jM,d8⟩,⟨jN,jO,eb⟩,⟨fa4,fT,ec⟩,⟨jP,jQ,ed⟩⟩ oQ (gh W)):=hcut
 clear hcut G4
 have KT:bE (gh W) <= 1500:=by rw [Aq];exact hWs
 have Jp:Hid ((gh W).az=s.az):=HW1.out
 have pe:Hid ((gh W).seq=s.seq):=HW2.out
 have Jq:Hid ((gh W).now=s.now):=HW3.out
 generalize gh W=F at *
 obtain ⟨cn,hcn⟩:∃ cn:Nat,s.az=(cn:Int):=⟨s.az.toNat,by omega⟩
 have AB:Hid (s.az=(cn:Int)):=hcn
 have Jr:cn <= 4:=by omega
 clear hcn
 go_upto_block 6 with fail
 go_cut [] (fun wx=>∃ v5 eV,Hid (aN w2 w1.heap.size ⟨⟨cg,bO,aC⟩,⟨bu,bx,aD⟩,⟨ch,cj,aK⟩,⟨bA,fn',aE⟩,⟨bB,bC,aF⟩⟩ cu wx ob v5 eV (eh F cn)))
 case first =>
  go_wp2
  go_loopw [9] (fun i wr=>∃ (k:Nat) (v5:Sv) (eV:List Lv),k <= cn /\ i = .int .i64 k /\ Hid (aN w2 w1.heap.size ⟨⟨cg,bO,aC⟩,⟨bu,bx,aD⟩,⟨ch,cj,aK⟩,⟨bA,fn',aE⟩,⟨bB,bC,aF⟩⟩ cu wr ob v5 eV (eh F k))) (fun i _=>cn - (intOf i).toNat)
  case atStart=>exact ⟨0,⟨⟨jJ,jK,d7⟩,⟨jL,jM,d8⟩,⟨jN,jO,eb⟩,⟨fa4,fT,ec⟩,⟨jP,jQ,ed⟩⟩,oQ,Nat.zero_le _,rfl,G5⟩
  case round =>
   obtain ⟨k,⟨⟨yA,yB,bF⟩,⟨yD,yE,bG⟩,⟨yG,yH,bH⟩,⟨yJ,yK,bI⟩,⟨yM,yN,bJ⟩⟩,eV,hk,rfl,G⟩:=hrel
   clear G5
   obtain ⟨t1,t2,t3,t4,t5⟩:=pV F k
   have HT1:(eh F k).az=(cn:Int):=by rw [t1,Jp.out,AB.out]
   have Js:Hid (bE (eh F k) <= 2000000):=by show _ <= _;omega
   have Jt:Hid (0 <= (eh F k).seq):=by show _ <= _;have:=pe.out;omega
   have Ju:Hid ((eh F k).seq <= 2000000):=by show _ <= _;have:=pe.out;omega
   have Jv:Hid (eh F (k+1)=fI (eh F k) k):=rfl
   clear t1 t2 t3 t4 t5
   generalize hTe:eh F k=T at *
   have Jw:Hid (eh F k=T):=hTe
   clear hTe
   obtain ⟨_,o1,o2⟩:=G.out.var.box
   dsimp only [ae] at o1
   have CT:Hid (Calls Tryz.prog 180 #[.agg #[.int .i64 T.now,.int .i64 (cn:Int),.slice yA yB bF,.slice yD yE bG,.slice yG yH bH,.slice yJ yK bI,.int .i64 T.seq,.int .i64 T.missed,.slice yM yN bJ],.int .i64 k] wr fun e w'=>∃ v' vs',e = .returned (.agg (ae (fI T k) v')) /\ Goes wr w1.heap.size ⟨⟨yA,yB,bF⟩,⟨yD,yE,bG⟩,⟨yG,yH,bH⟩,⟨yJ,yK,bI⟩,⟨yM,yN,bJ⟩⟩ eV w' v' vs' (fI T k)):=by
    have h1:=Jx G.out.var.own (by have:=G.out.var.fu;have:=G.out.var.box.lt;omega) Js.out Jt.out Ju.out (k:Int)
    dsimp only [ae] at h1
    rw [HT1] at h1
    exact h1
   simp only [HT1] at o1
   clear HT1
   by_cases hlt:k < cn
   ·have hlt':(k:Int) < (cn:Int):=by omega
    go_wp2_with fail
    refine CT.out.mono ?_
    rintro e w7 ⟨⟨⟨aZ,bd,cU⟩,⟨bg,bh,cV⟩,⟨bj,bk,cW⟩,⟨fa6,bm,cX⟩,⟨bn,bp,cY⟩⟩,eD,rfl,g7⟩
    have G7:Hid (aN w2 w1.heap.size ⟨⟨cg,bO,aC⟩,⟨bu,bx,aD⟩,⟨ch,cj,aK⟩,⟨bA,fn',aE⟩,⟨bB,bC,aF⟩⟩ cu (putC w7 ob 0 (ae (fI T k) ⟨⟨aZ,bd,cU⟩,⟨bg,bh,cV⟩,⟨bj,bk,cW⟩,⟨fa6,bm,cX⟩,⟨bn,bp,cY⟩⟩).toList) ob ⟨⟨aZ,bd,cU⟩,⟨bg,bh,cV⟩,⟨bj,bk,cW⟩,⟨fa6,bm,cX⟩,⟨bn,bp,cY⟩⟩ eD (fI T k)):=G.out.put g7
    obtain ⟨_,q1,q2⟩:=g7.blk G.out.var.box G.out.var.far
    dsimp only [ae] at q1
    clear o1 o2 g7
    go_upto_region 27 with fail
    change Code.wp _ _ _ _ (putC w7 ob 0 (ae (fI T k) ⟨⟨aZ,bd,cU⟩,⟨bg,bh,cV⟩,⟨bj,bk,cW⟩,⟨fa6,bm,cX⟩,⟨bn,bp,cY⟩⟩).toList)
    clear q1 q2
    generalize putC w7 ob 0 (ae (fI T k) ⟨⟨aZ,bd,cU⟩,⟨bg,bh,cV⟩,⟨bj,bk,cW⟩,⟨fa6,bm,cX⟩,⟨bn,bp,cY⟩⟩).toList=X7 at *
    go_wp2
    exact ⟨⟨k+1,⟨⟨aZ,bd,cU⟩,⟨bg,bh,cV⟩,⟨bj,bk,cW⟩,⟨fa6,bm,cX⟩,⟨bn,bp,cY⟩⟩,eD,by omega,by go_num,by show aN _ _ _ _ _ _ _ _ _;rw [Jv.out];exact G7.out⟩,by simp only [intOf];omega⟩
   ·have e:k=cn:=by omega
    subst e
    go_wp2
    go_meet
    exact ⟨_,eV,by show aN _ _ _ _ _ _ _ _ _;rw [Jw.out];exact G.out⟩
 case rest =>
 obtain ⟨⟨⟨yA,yB,bF⟩,⟨yD,yE,bG⟩,⟨yG,yH,bH⟩,⟨yJ,yK,bI⟩,⟨yM,yN,bJ⟩⟩,eV,G6⟩:=hcut
 obtain ⟨t1,t2,t3,t4,t5⟩:=pV F cn
 have nD:(eh F cn).now=s.now:=by rw [t2,Jq.out]
 have Jy:Hid ((eh F cn).now=s.now):=nD
 have hnw:0 <= (eh F cn).now /\ (eh F cn).now <= 100000:=by rw [nD];exact ⟨hn0,hn1⟩
 obtain ⟨Jz,JA⟩:=hnw
 have JB:Hid (dF s=pP (eh F cn)):=by show _=_;rw [HAT.out,AB.out];rfl
 clear t1 t2 t3 t4 t5 nD G5
 generalize eh F cn=T at *
 obtain ⟨_,o1,o2⟩:=G6.out.var.box
 dsimp only [ae] at o1
 go_upto_region 30 with fail
 have G7:Hid (aN w2 w1.heap.size ⟨⟨cg,bO,aC⟩,⟨bu,bx,aD⟩,⟨ch,cj,aK⟩,⟨bA,fn',aE⟩,⟨bB,bC,aF⟩⟩ cu (wc.setCell ⟨ob,0,none⟩ (.int .i64 (T.now+1))) ob ⟨⟨yA,yB,bF⟩,⟨yD,yE,bG⟩,⟨yG,yH,bH⟩,⟨yJ,yK,bI⟩,⟨yM,yN,bJ⟩⟩ eV { T with now:=T.now+1 }):=G6.out.num (T.now+1) T.az T.seq T.missed (k:=0) rfl (by omega)
 clear o1 o2 G6
 generalize wc.setCell ⟨ob,0,none⟩ (.int .i64 (T.now+1))=X7 at *
 have HT:Hid (dF s={ T with now:=T.now+1 }):=JB.out
 have KX:aa Z X7:=G7.out.ep O2.out kM.out hZ1.out
 obtain ⟨_,o1,o2⟩:=G7.out.var.box
 dsimp only [ae] at o1
 obtain ⟨_,r1,r2⟩:=R0.out.keeps KX
 go_wp2
 have D:=(R0.out.keeps KX).putC (ae ({ T with now:=T.now+1 }:Sy) ⟨⟨yA,yB,bF⟩,⟨yD,yE,bG⟩,⟨yG,yH,bH⟩,⟨yJ,yK,bI⟩,⟨yM,yN,bJ⟩⟩).toList rfl
 have KQ:=aa.putC (b:=w.heap.size+1) (by omega) (ae ({ T with now:=T.now+1 }:Sy) ⟨⟨yA,yB,bF⟩,⟨yD,yE,bG⟩,⟨yG,yH,bH⟩,⟨yJ,yK,bI⟩,⟨yM,yN,bJ⟩⟩).toList 0 (kZ.trans KX)
 have SQ:ay (putC X7 (w.heap.size+1) 0 (ae ({ T with now:=T.now+1 }:Sy) ⟨⟨yA,yB,bF⟩,⟨yD,yE,bG⟩,⟨yG,yH,bH⟩,⟨yJ,yK,bI⟩,⟨yM,yN,bJ⟩⟩).toList) w.heap.size ⟨⟨yA,yB,bF⟩,⟨yD,yE,bG⟩,⟨yG,yH,bH⟩,⟨yJ,yK,bI⟩,⟨yM,yN,bJ⟩⟩ eV ({ T with now:=T.now+1 }):=(ay.aT (c:=w.heap.size+1) (fun i hi=>by have:=(G7.out.var.own.aG hi).1;have:=hz.out;have:=hZ1.out;omega) _ _ G7.out.var.own).base (by have:=hz.out;have:=hZ1.out;omega)
 change bodyPost _ _ _ _ _ (putC X7 (w.heap.size+1) 0 (ae ({ T with now:=T.now+1 }:Sy) ⟨⟨yA,yB,bF⟩,⟨yD,yE,bG⟩,⟨yG,yH,bH⟩,⟨yJ,yK,bI⟩,⟨yM,yN,bJ⟩⟩).toList)
 generalize putC X7 (w.heap.size+1) 0 (ae ({ T with now:=T.now+1 }:Sy) ⟨⟨yA,yB,bF⟩,⟨yD,yE,bG⟩,⟨yG,yH,bH⟩,⟨yJ,yK,bI⟩,⟨yM,yN,bJ⟩⟩).toList=Q at D KQ SQ ⊢
 exact bodyPost_ret (v := .tuple #[.agg (ae ({ T with now:=T.now+1 }:Sy) ⟨⟨yA,yB,bF⟩,⟨yD,yE,bG⟩,⟨yG,yH,bH⟩,⟨yJ,yK,bI⟩,⟨yM,yN,bJ⟩⟩),.bool true]) (by simp [results,Tryz.results146,go_sem,D.cells]) rfl (by rw [HT.out,ij.out];first | exact ⟨_,eV,rfl,SQ,KQ⟩ | exact ⟨_,rfl,⟨_,SQ⟩,KQ⟩)
def kp (s:Sy) (n:Int):Sy:=if aY s then (fj s n.toNat).1 else Sy.zero
def kO (s:Sy) (n:Int):Int:=if aY s then ((fj s n.toNat).2:Int) else 0
theorem AD {s:Sy} (h:g9 s=true):aY s=true /\ s.now < 100000 /\ 0 <= s.now:=by
 have h0:=h
 unfold g9 at h
 simp only [Bool.and_eq_true,Bool.not_eq_true',beq_eq_false_iff_ne,ne_eq] at h
 have:=(kQ.1 h.1).now
 exact ⟨h.1,by omega,this.1⟩
theorem yd {s:Sy} (h:g9 s=true):(dF s).now=s.now+1 /\ bE (dF s) <= 1600:=by
 have R:=kQ.1 (AD h).1
 have e:dF s=pP (eh (gh (eY (fi s))) s.az.toNat):=by unfold dF;rw [h];rfl
 obtain ⟨t1,t2,t3,t4,t5⟩:=pV (gh (eY (fi s))) s.az.toNat
 have h1:=Ao s
 have h2:=R.small
 have h3:=R.az
 rw [Aq,Ap] at t3
 rw [e]
 refine ⟨?_,?_⟩
 ·show (eh (gh (eY (fi s))) s.az.toNat).now+1=_
  rw [t2];rfl
 ·show bE (eh (gh (eY (fi s))) s.az.toNat) <= _
  omega
set_option maxHeartbeats 4000000 in
theorem Bg {w:World} {v:Sv} {s:Sy} (h:aA w v s) (n:Int) :
  Calls Tryz.prog 83 #[.agg (ae s v),.int .i64 n] w fun e w'=>∃ v' vs',e = .returned (.tuple #[.agg (ae (kp s n) v'),.int .i64 (kO s n)]) /\ ay w' w.heap.size v' vs' (kp s n) /\ aa w w':=by
 obtain ⟨⟨ta,tn,ag⟩,⟨la,ln,ah⟩,⟨ga,gn,ai⟩,⟨fa,fn,aj⟩,⟨ra,rn,ao⟩⟩:=v
 have kZ:aa w ((w.alloc (.cells (ae s ⟨⟨ta,tn,ag⟩,⟨la,ln,ah⟩,⟨ga,gn,ai⟩,⟨fa,fn,aj⟩,⟨ra,rn,ao⟩⟩) 30)).alloc (.cells zc 30)):=((aa.refl w).alloc _).alloc _
 have B0:Hid (aq ((w.alloc (.cells (ae s ⟨⟨ta,tn,ag⟩,⟨la,ln,ah⟩,⟨ga,gn,ai⟩,⟨fa,fn,aj⟩,⟨ra,rn,ao⟩⟩) 30)).alloc (.cells zc 30)) w.heap.size (ae s ⟨⟨ta,tn,ag⟩,⟨la,ln,ah⟩,⟨ga,gn,ai⟩,⟨fa,fn,aj⟩,⟨ra,rn,ao⟩⟩)):=(aq.new _ _ _).alloc _
 have R0:Hid (aq ((w.alloc (.cells (ae s ⟨⟨ta,tn,ag⟩,⟨la,ln,ah⟩,⟨ga,gn,ai⟩,⟨fa,fn,aj⟩,⟨ra,rn,ao⟩⟩) 30)).alloc (.cells zc 30)) (w.heap.size+1) zc):=by
  have:=aq.new (w.alloc (.cells (ae s ⟨⟨ta,tn,ag⟩,⟨la,ln,ah⟩,⟨ga,gn,ai⟩,⟨fa,fn,aj⟩,⟨ra,rn,ao⟩⟩) 30)) zc 30
  show aq _ _ _
  simpa using this
 have hz:Hid (((w.alloc (.cells (ae s ⟨⟨ta,tn,ag⟩,⟨la,ln,ah⟩,⟨ga,gn,ai⟩,⟨fa,fn,aj⟩,⟨ra,rn,ao⟩⟩) 30)).alloc (.cells zc 30)).heap.size=w.heap.size+2):=by show _=_;simp
 have HS:Hid (aA ((w.alloc (.cells (ae s ⟨⟨ta,tn,ag⟩,⟨la,ln,ah⟩,⟨ga,gn,ai⟩,⟨fa,fn,aj⟩,⟨ra,rn,ao⟩⟩) 30)).alloc (.cells zc 30)) ⟨⟨ta,tn,ag⟩,⟨la,ln,ah⟩,⟨ga,gn,ai⟩,⟨fa,fn,aj⟩,⟨ra,rn,ao⟩⟩ s):=h.keeps kZ
 clear h
 go_enter Tryz.func83,Tryz.ntmps83
 go_wp2_with fail
 change Calls _ _ _ ((w.alloc (.cells (ae s ⟨⟨ta,tn,ag⟩,⟨la,ln,ah⟩,⟨ga,gn,ai⟩,⟨fa,fn,aj⟩,⟨ra,rn,ao⟩⟩) 30)).alloc (.cells zc 30)) _
 generalize (w.alloc (.cells (ae s ⟨⟨ta,tn,ag⟩,⟨la,ln,ah⟩,⟨ga,gn,ai⟩,⟨fa,fn,aj⟩,⟨ra,rn,ao⟩⟩) 30)).alloc (.cells zc 30)=Z at *
 refine (qV HS.out).mono ?_
 rintro e w1 ⟨rfl,k1⟩
 have hb0:∀ w',aa Z w'->∀ j,w'.cell? ⟨w.heap.size,j,none⟩=(ae s ⟨⟨ta,tn,ag⟩,⟨la,ln,ah⟩,⟨ga,gn,ai⟩,⟨fa,fn,aj⟩,⟨ra,rn,ao⟩⟩)[j]?:=fun w' k=>(B0.out.keeps k).cells
 dsimp only [ae] at hb0
 cases hb:aY s
 ·have ij:Hid (kO s n=0):=by show _=_;unfold kO;rw [hb];rfl
  have HT:Hid (kp s n=Sy.zero):=by show _=_;unfold kp;rw [hb];rfl
  obtain ⟨_,r1,r2⟩:=R0.out.keeps k1
  go_wp2
  have D:=(R0.out.keeps k1).putC zc.toList rfl
  have KQ:=aa.putC (b:=w.heap.size+1) (by omega) zc.toList 0 (kZ.trans k1)
  change bodyPost _ _ _ _ _ (putC w1 (w.heap.size+1) 0 zc.toList)
  generalize putC w1 (w.heap.size+1) 0 zc.toList=Q at D KQ ⊢
  exact bodyPost_ret (v := .tuple #[.agg zc,.int .i64 0]) (by simp [results,Tryz.results83,go_sem,D.cells]) rfl (by rw [HT.out,ij.out];first | exact ⟨Sv.zero,[],rfl,ay.nothing _ _,KQ⟩ | exact ⟨Sv.zero,rfl,⟨[],ay.nothing _ _⟩,KQ⟩)
 have R:=kQ.1 hb
 have hsm:bE s <= 1500:=R.small
 obtain ⟨hn0,hn1⟩:=R.now
 have HT0:Hid (kp s n=(fj s n.toNat).1):=by show _=_;unfold kp;rw [hb];rfl
 have dJ:Hid (kO s n=((fj s n.toNat).2:Int)):=by show _=_;unfold kO;rw [hb];rfl
 clear R
 go_wp2_with fail
 refine (nZ (HS.out.keeps k1)).mono ?_
 rintro e w2 ⟨vo,cu,rfl,o2,k2⟩
 obtain ⟨⟨cg,bO,aC⟩,⟨bu,bx,aD⟩,⟨ch,cj,aK⟩,⟨bA,fn',aE⟩,⟨bB,bC,aF⟩⟩:=vo
 have O2:Hid (ay w2 w1.heap.size ⟨⟨cg,bO,aC⟩,⟨bu,bx,aD⟩,⟨ch,cj,aK⟩,⟨bA,fn',aE⟩,⟨bB,bC,aF⟩⟩ cu s):=o2
 have kM:Hid (aa Z w2):=k1.trans k2
 have hZ1:Hid (Z.heap.size <= w1.heap.size):=k1.size
 have g0:=aN.start o2 k2.size
 clear o2
 go_wp2
 change Code.wp _ _ _ _ (w2.alloc (.cells (ae s ⟨⟨cg,bO,aC⟩,⟨bu,bx,aD⟩,⟨ch,cj,aK⟩,⟨bA,fn',aE⟩,⟨bB,bC,aF⟩⟩) 30))
 generalize w2.alloc (.cells (ae s ⟨⟨cg,bO,aC⟩,⟨bu,bx,aD⟩,⟨ch,cj,aK⟩,⟨bA,fn',aE⟩,⟨bB,bC,aF⟩⟩) 30)=X0 at *
 generalize w2.heap.size=ob at *
 have G0:Hid (aN w2 w1.heap.size ⟨⟨cg,bO,aC⟩,⟨bu,bx,aD⟩,⟨ch,cj,aK⟩,⟨bA,fn',aE⟩,⟨bB,bC,aF⟩⟩ cu X0 ob ⟨⟨cg,bO,aC⟩,⟨bu,bx,aD⟩,⟨ch,cj,aK⟩,⟨bA,fn',aE⟩,⟨bB,bC,aF⟩⟩ cu s):=g0
 clear g0 k1 k2
 go_loopw [7] (fun i wr=>∃ (k:Nat) (v5:Sv) (eV:List Lv) (T:Sy),i = .int .i64 k /\ k <= n.toNat /\ T.now=s.now+k /\ T.now <= 100000 /\ bE T <= 1600 /\ Hid (aN w2 w1.heap.size ⟨⟨cg,bO,aC⟩,⟨bu,bx,aD⟩,⟨ch,cj,aK⟩,⟨bA,fn',aE⟩,⟨bB,bC,aF⟩⟩ cu wr ob v5 eV T) /\ Hid ((fj s n.toNat)=((fj T (n.toNat - k)).1,(fj T (n.toNat - k)).2+k))) (fun i _=>200000 - (intOf i).toNat)
 case atStart=>exact ⟨0,_,cu,s,rfl,Nat.zero_le _,by simp,hn1,by omega,G0,by show _=_;simp⟩
 case round =>
  obtain ⟨k,⟨⟨yA,yB,bF⟩,⟨yD,yE,bG⟩,⟨yG,yH,bH⟩,⟨yJ,yK,bI⟩,⟨yM,yN,bJ⟩⟩,eV,T,rfl,hk,vh,KU,hTs,G,HI⟩:=hrel
  clear G0
  have vi:Hid (T.now=s.now+k):=vh
  have hk1:k <= 100000:=by omega
  by_cases hlt:(k:Int) < n
  ·obtain ⟨m,Hm⟩:∃ m,Hid (n.toNat - k=m+1):=⟨n.toNat - k - 1,by show _=_;omega⟩
   obtain ⟨_,o1,o2⟩:=G.out.var.box
   dsimp only [ae] at o1
   obtain ⟨tb,qD⟩:∃ b,Hid (g9 T=b):=⟨_,rfl⟩
   have CT:Hid (Calls Tryz.prog 146 #[.agg (ae T ⟨⟨yA,yB,bF⟩,⟨yD,yE,bG⟩,⟨yG,yH,bH⟩,⟨yJ,yK,bI⟩,⟨yM,yN,bJ⟩⟩)] wr fun e w'=>∃ v' vs',e = .returned (.tuple #[.agg (ae (dF T) v'),.bool tb]) /\ ay w' wr.heap.size v' vs' (dF T) /\ aa wr w'):=by
    have h1:=Jj (G.out.var.own.on (by omega))
    rw [qD.out] at h1
    exact h1
   dsimp only [ae] at CT
   clear vh
   go_wp2_with fail
   refine CT.out.mono ?_
   rintro e w7 ⟨⟨⟨aZ,bd,cU⟩,⟨bg,bh,cV⟩,⟨bj,bk,cW⟩,⟨fa6,bm,cX⟩,⟨bn,bp,cY⟩⟩,eD,rfl,O7,k7⟩
   have KN:aa wr (w7.alloc (.cells (ae (dF T) ⟨⟨aZ,bd,cU⟩,⟨bg,bh,cV⟩,⟨bj,bk,cW⟩,⟨fa6,bm,cX⟩,⟨bn,bp,cY⟩⟩) 30)):=k7.alloc _
   have NB:Hid (aq (w7.alloc (.cells (ae (dF T) ⟨⟨aZ,bd,cU⟩,⟨bg,bh,cV⟩,⟨bj,bk,cW⟩,⟨fa6,bm,cX⟩,⟨bn,bp,cY⟩⟩) 30)) w7.heap.size (ae (dF T) ⟨⟨aZ,bd,cU⟩,⟨bg,bh,cV⟩,⟨bj,bk,cW⟩,⟨fa6,bm,cX⟩,⟨bn,bp,cY⟩⟩)):=aq.new _ _ _
   have GN:Hid (Goes wr w1.heap.size ⟨⟨yA,yB,bF⟩,⟨yD,yE,bG⟩,⟨yG,yH,bH⟩,⟨yJ,yK,bI⟩,⟨yM,yN,bJ⟩⟩ eV (w7.alloc (.cells (ae (dF T) ⟨⟨aZ,bd,cU⟩,⟨bg,bh,cV⟩,⟨bj,bk,cW⟩,⟨fa6,bm,cX⟩,⟨bn,bp,cY⟩⟩) 30)) ⟨⟨aZ,bd,cU⟩,⟨bg,bh,cV⟩,⟨bj,bk,cW⟩,⟨fa6,bm,cX⟩,⟨bn,bp,cY⟩⟩ eD (dF T)):=(Goes.fresh O7 k7 (by have:=G.out.var.fu;have:=G.out.var.box.lt;omega)).behind ((aa.refl _).alloc _)
   clear o1 o2 O7 k7 CT
   go_upto_region 7 with fail
   change Code.wp _ _ _ _ (w7.alloc (.cells (ae (dF T) ⟨⟨aZ,bd,cU⟩,⟨bg,bh,cV⟩,⟨bj,bk,cW⟩,⟨fa6,bm,cX⟩,⟨bn,bp,cY⟩⟩) 30))
   generalize w7.alloc (.cells (ae (dF T) ⟨⟨aZ,bd,cU⟩,⟨bg,bh,cV⟩,⟨bj,bk,cW⟩,⟨fa6,bm,cX⟩,⟨bn,bp,cY⟩⟩) 30)=X at *
   generalize w7.heap.size=nb at *
   cases tb
   ·have E1:fj T (n.toNat - k)=(T,0):=by rw [Hm.out];simp [fj,qD.out]
    have HT:Hid (kp s n=T):=by show _=_;rw [HT0.out,HI.out,E1]
    have HN:Hid (kO s n=(k:Int)):=by show _=_;rw [dJ.out,HI.out,E1];simp
    have GX:Hid (aN w2 w1.heap.size ⟨⟨cg,bO,aC⟩,⟨bu,bx,aD⟩,⟨ch,cj,aK⟩,⟨bA,fn',aE⟩,⟨bB,bC,aF⟩⟩ cu X ob ⟨⟨yA,yB,bF⟩,⟨yD,yE,bG⟩,⟨yG,yH,bH⟩,⟨yJ,yK,bI⟩,⟨yM,yN,bJ⟩⟩ eV T):=G.out.keeps KN
    clear E1 G GN NB KN
    have KX:aa Z X:=GX.out.ep O2.out kM.out hZ1.out
    obtain ⟨_,o1,o2⟩:=GX.out.var.box
    dsimp only [ae] at o1
    obtain ⟨_,r1,r2⟩:=R0.out.keeps KX
    go_wp2
    have D:=(R0.out.keeps KX).putC (ae (T:Sy) ⟨⟨yA,yB,bF⟩,⟨yD,yE,bG⟩,⟨yG,yH,bH⟩,⟨yJ,yK,bI⟩,⟨yM,yN,bJ⟩⟩).toList rfl
    have KQ:=aa.putC (b:=w.heap.size+1) (by omega) (ae (T:Sy) ⟨⟨yA,yB,bF⟩,⟨yD,yE,bG⟩,⟨yG,yH,bH⟩,⟨yJ,yK,bI⟩,⟨yM,yN,bJ⟩⟩).toList 0 (kZ.trans KX)
    have SQ:ay (putC X (w.heap.size+1) 0 (ae (T:Sy) ⟨⟨yA,yB,bF⟩,⟨yD,yE,bG⟩,⟨yG,yH,bH⟩,⟨yJ,yK,bI⟩,⟨yM,yN,bJ⟩⟩).toList) w.heap.size ⟨⟨yA,yB,bF⟩,⟨yD,yE,bG⟩,⟨yG,yH,bH⟩,⟨yJ,yK,bI⟩,⟨yM,yN,bJ⟩⟩ eV (T):=(ay.aT (c:=w.heap.size+1) (fun i hi=>by have:=(GX.out.var.own.aG hi).1;have:=hz.out;have:=hZ1.out;omega) _ _ GX.out.var.own).base (by have:=hz.out;have:=hZ1.out;omega)
    change bodyPost _ _ _ _ _ (putC X (w.heap.size+1) 0 (ae (T:Sy) ⟨⟨yA,yB,bF⟩,⟨yD,yE,bG⟩,⟨yG,yH,bH⟩,⟨yJ,yK,bI⟩,⟨yM,yN,bJ⟩⟩).toList)
    generalize putC X (w.heap.size+1) 0 (ae (T:Sy) ⟨⟨yA,yB,bF⟩,⟨yD,yE,bG⟩,⟨yG,yH,bH⟩,⟨yJ,yK,bI⟩,⟨yM,yN,bJ⟩⟩).toList=Q at D KQ SQ ⊢
    exact bodyPost_ret (v := .tuple #[.agg (ae (T:Sy) ⟨⟨yA,yB,bF⟩,⟨yD,yE,bG⟩,⟨yG,yH,bH⟩,⟨yJ,yK,bI⟩,⟨yM,yN,bJ⟩⟩),.int .i64 k]) (by simp [results,Tryz.results83,go_sem,D.cells]) rfl (by rw [HT.out,HN.out];first | exact ⟨_,eV,rfl,SQ,KQ⟩ | exact ⟨_,rfl,⟨_,SQ⟩,KQ⟩)
   ·have hf:=yd qD.out
    have hn2:=(AD qD.out).2
    have HI2:Hid (fj s n.toNat=((fj (dF T) (n.toNat - (k+1))).1,(fj (dF T) (n.toNat - (k+1))).2+(k+1))):=by
     show _=_
     rw [HI.out,Hm.out,show n.toNat - (k+1)=m from by have:=Hm.out;omega]
     simp only [fj,qD.out,if_true]
     congr 1
     omega
    have G9:Hid (aN w2 w1.heap.size ⟨⟨cg,bO,aC⟩,⟨bu,bx,aD⟩,⟨ch,cj,aK⟩,⟨bA,fn',aE⟩,⟨bB,bC,aF⟩⟩ cu (putC X ob 0 (ae (dF T) ⟨⟨aZ,bd,cU⟩,⟨bg,bh,cV⟩,⟨bj,bk,cW⟩,⟨fa6,bm,cX⟩,⟨bn,bp,cY⟩⟩).toList) ob ⟨⟨aZ,bd,cU⟩,⟨bg,bh,cV⟩,⟨bj,bk,cW⟩,⟨fa6,bm,cX⟩,⟨bn,bp,cY⟩⟩ eD (dF T)):=G.out.put GN.out
    have hT1:(dF T).now=s.now+((k+1:Nat):Int):=by have:=vi.out;omega
    have AF:(dF T).now <= 100000:=by omega
    have AH:bE (dF T) <= 1600:=hf.2
    have vj:Hid ((dF T).now=s.now+((k+1:Nat):Int) /\ (dF T).now <= 100000 /\ bE (dF T) <= 1600):=⟨hT1,AF,AH⟩
    obtain ⟨_,q1,q2⟩:=NB.out
    dsimp only [ae] at q1
    obtain ⟨_,p1,p2⟩:=G.out.var.box.keeps KN
    dsimp only [ae] at p1
    clear hf hn2 hT1 AF AH
    go_upto_region 10 with fail
    change Code.wp _ _ _ _ (putC X ob 0 (ae (dF T) ⟨⟨aZ,bd,cU⟩,⟨bg,bh,cV⟩,⟨bj,bk,cW⟩,⟨fa6,bm,cX⟩,⟨bn,bp,cY⟩⟩).toList)
    clear q1 q2 p1 p2 NB GN G KN
    generalize putC X ob 0 (ae (dF T) ⟨⟨aZ,bd,cU⟩,⟨bg,bh,cV⟩,⟨bj,bk,cW⟩,⟨fa6,bm,cX⟩,⟨bn,bp,cY⟩⟩).toList=X9 at *
    go_wp2
    exact ⟨⟨k+1,_,eD,dF T,by go_num,by omega,vj.out.1,vj.out.2.1,vj.out.2.2,G9,HI2⟩,by simp only [intOf];omega⟩
  ·have E0:n.toNat - k=0:=by omega
   have E1:fj T (n.toNat - k)=(T,0):=by rw [E0];rfl
   have HT:Hid (kp s n=T):=by show _=_;rw [HT0.out,HI.out,E1]
   have HN:Hid (kO s n=(k:Int)):=by show _=_;rw [dJ.out,HI.out,E1];simp
   clear E0 E1 vh
   have KX:aa Z wr:=G.out.ep O2.out kM.out hZ1.out
   obtain ⟨_,o1,o2⟩:=G.out.var.box
   dsimp only [ae] at o1
   obtain ⟨_,r1,r2⟩:=R0.out.keeps KX
   go_wp2
   have D:=(R0.out.keeps KX).putC (ae (T:Sy) ⟨⟨yA,yB,bF⟩,⟨yD,yE,bG⟩,⟨yG,yH,bH⟩,⟨yJ,yK,bI⟩,⟨yM,yN,bJ⟩⟩).toList rfl
   have KQ:=aa.putC (b:=w.heap.size+1) (by omega) (ae (T:Sy) ⟨⟨yA,yB,bF⟩,⟨yD,yE,bG⟩,⟨yG,yH,bH⟩,⟨yJ,yK,bI⟩,⟨yM,yN,bJ⟩⟩).toList 0 (kZ.trans KX)
   have SQ:ay (putC wr (w.heap.size+1) 0 (ae (T:Sy) ⟨⟨yA,yB,bF⟩,⟨yD,yE,bG⟩,⟨yG,yH,bH⟩,⟨yJ,yK,bI⟩,⟨yM,yN,bJ⟩⟩).toList) w.heap.size ⟨⟨yA,yB,bF⟩,⟨yD,yE,bG⟩,⟨yG,yH,bH⟩,⟨yJ,yK,bI⟩,⟨yM,yN,bJ⟩⟩ eV (T):=(ay.aT (c:=w.heap.size+1) (fun i hi=>by have:=(G.out.var.own.aG hi).1;have:=hz.out;have:=hZ1.out;omega) _ _ G.out.var.own).base (by have:=hz.out;have:=hZ1.out;omega)
   change bodyPost _ _ _ _ _ (putC wr (w.heap.size+1) 0 (ae (T:Sy) ⟨⟨yA,yB,bF⟩,⟨yD,yE,bG⟩,⟨yG,yH,bH⟩,⟨yJ,yK,bI⟩,⟨yM,yN,bJ⟩⟩).toList)
   generalize putC wr (w.heap.size+1) 0 (ae (T:Sy) ⟨⟨yA,yB,bF⟩,⟨yD,yE,bG⟩,⟨yG,yH,bH⟩,⟨yJ,yK,bI⟩,⟨yM,yN,bJ⟩⟩).toList=Q at D KQ SQ ⊢
   exact bodyPost_ret (v := .tuple #[.agg (ae (T:Sy) ⟨⟨yA,yB,bF⟩,⟨yD,yE,bG⟩,⟨yG,yH,bH⟩,⟨yJ,yK,bI⟩,⟨yM,yN,bJ⟩⟩),.int .i64 k]) (by simp [results,Tryz.results83,go_sem,D.cells]) rfl (by rw [HT.out,HN.out];first | exact ⟨_,eV,rfl,SQ,KQ⟩ | exact ⟨_,rfl,⟨_,SQ⟩,KQ⟩)
end Go.Proofs.YteagpjlgjfaclaaGreatDoor
