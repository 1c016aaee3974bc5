/-
  Ticks: the model's tick.
  Ticks: so many of them.
-/
import Derived.Test.YteagpjlgjfaclaaGreatDoorSysCopy
import Derived.Test.YteagpjlgjfaclaaGreatDoorSysShareL
import Derived.Test.YteagpjlgjfaclaaGreatDoorSysWake
import Derived.Test.YteagpjlgjfaclaaGreatDoorSysTurn
import Derived.Test.YteagpjlgjfaclaaGreatDoorSysAwake
import Derived.Test.YteagpjlgjfaclaaGreatDoorSysLocks
import Derived.Test.YteagpjlgjfaclaaGreatDoorSysNewS
import Derived.Test.YteagpjlgjfaclaaGreatDoorFairList
import Derived.Deep.CutBlock
import Derived.Deep.DeepCutAuto
namespace Go.Proofs.YteagpjlgjfaclaaGreatDoor
set_option maxRecDepth 100000
open Go.RowKit
attribute [local go_sem] Keeps.refl Keeps.alloc Keeps.drew Keeps.drewN
set_option linter.unusedSimpArgs false in
set_option maxHeartbeats 20000000 in
theorem qmk {w:World} {v:Sv} {s:Sy} (h:SysOn w v s) :
  Calls Tryz.prog 146 #[.agg (syc s v)] w fun e w'=>∃ v' vs',e = .returned (.tuple #[.agg (syc (qaz s) v'),.bool (qbx s)]) /\ OwnS w' w.heap.size v' vs' (qaz s) /\ Keeps w w':=by
 obtain ⟨⟨ta,tn,tcap⟩,⟨la,ln,lcap⟩,⟨ga,gn,gcap⟩,⟨fa,fn,fcap⟩,⟨ra,rn,rcap⟩⟩:=v
 have Hn:Hid (s.tasks.length=tn):=h.lay.tl
 have Hgl:Hid (s.ghosts.length=gn):=h.lay.gl
 have Hrl:Hid (s.trace.length=rn):=h.lay.rl
 have kZ:Keeps w ((w.alloc (.cells (syc s ⟨⟨ta,tn,tcap⟩,⟨la,ln,lcap⟩,⟨ga,gn,gcap⟩,⟨fa,fn,fcap⟩,⟨ra,rn,rcap⟩⟩) 30)).alloc (.cells zc 30)):=((Keeps.refl w).alloc _).alloc _
 have B0:Hid (Blk ((w.alloc (.cells (syc s ⟨⟨ta,tn,tcap⟩,⟨la,ln,lcap⟩,⟨ga,gn,gcap⟩,⟨fa,fn,fcap⟩,⟨ra,rn,rcap⟩⟩) 30)).alloc (.cells zc 30)) w.heap.size (syc s ⟨⟨ta,tn,tcap⟩,⟨la,ln,lcap⟩,⟨ga,gn,gcap⟩,⟨fa,fn,fcap⟩,⟨ra,rn,rcap⟩⟩)):=(Blk.new _ _ _).alloc _
 have R0:Hid (Blk ((w.alloc (.cells (syc s ⟨⟨ta,tn,tcap⟩,⟨la,ln,lcap⟩,⟨ga,gn,gcap⟩,⟨fa,fn,fcap⟩,⟨ra,rn,rcap⟩⟩) 30)).alloc (.cells zc 30)) (w.heap.size+1) zc):=by
  have:=Blk.new (w.alloc (.cells (syc s ⟨⟨ta,tn,tcap⟩,⟨la,ln,lcap⟩,⟨ga,gn,gcap⟩,⟨fa,fn,fcap⟩,⟨ra,rn,rcap⟩⟩) 30)) zc 30
  show Blk _ _ _
  simpa using this
 have hz:Hid (((w.alloc (.cells (syc s ⟨⟨ta,tn,tcap⟩,⟨la,ln,lcap⟩,⟨ga,gn,gcap⟩,⟨fa,fn,fcap⟩,⟨ra,rn,rcap⟩⟩) 30)).alloc (.cells zc 30)).heap.size=w.heap.size+2):=by show _=_;simp
 have HS:Hid (SysOn ((w.alloc (.cells (syc s ⟨⟨ta,tn,tcap⟩,⟨la,ln,lcap⟩,⟨ga,gn,gcap⟩,⟨fa,fn,fcap⟩,⟨ra,rn,rcap⟩⟩) 30)).alloc (.cells zc 30)) ⟨⟨ta,tn,tcap⟩,⟨la,ln,lcap⟩,⟨ga,gn,gcap⟩,⟨fa,fn,fcap⟩,⟨ra,rn,rcap⟩⟩ s):=h.keeps kZ
 clear h
 go_enter Tryz.func146,Tryz.ntmps146
 go_wp2_with fail
 change Calls _ _ _ ((w.alloc (.cells (syc s ⟨⟨ta,tn,tcap⟩,⟨la,ln,lcap⟩,⟨ga,gn,gcap⟩,⟨fa,fn,fcap⟩,⟨ra,rn,rcap⟩⟩) 30)).alloc (.cells zc 30)) _
 generalize (w.alloc (.cells (syc s ⟨⟨ta,tn,tcap⟩,⟨la,ln,lcap⟩,⟨ga,gn,gcap⟩,⟨fa,fn,fcap⟩,⟨ra,rn,rcap⟩⟩) 30)).alloc (.cells zc 30)=Z at *
 refine (qeM HS.out).mono ?_
 rintro e w1 ⟨rfl,k1⟩
 have hb0:∀ w',Keeps Z w'->∀ j,w'.cell? ⟨w.heap.size,j,none⟩=(syc s ⟨⟨ta,tn,tcap⟩,⟨la,ln,lcap⟩,⟨ga,gn,gcap⟩,⟨fa,fn,fcap⟩,⟨ra,rn,rcap⟩⟩)[j]?:=fun w' k=>(B0.out.keeps k).cells
 dsimp only [syc] at hb0
 cases hb:sysB s
 ·have HTB:Hid (qbx s=false):=by show _=_;unfold qbx;rw [hb];rfl
  have HT:Hid (qaz s=Sy.zero):=by show _=_;unfold qaz;rw [HTB.out,hb];rfl
  obtain ⟨_,r1,r2⟩:=R0.out.keeps k1
  go_wp2
  have D:=(R0.out.keeps k1).putC zc.toList rfl
  have KQ:=Keeps.putC (b:=w.heap.size+1) (by omega) zc.toList 0 (kZ.trans k1)
  change bodyPost _ _ _ _ _ (putC w1 (w.heap.size+1) 0 zc.toList)
  generalize putC w1 (w.heap.size+1) 0 zc.toList=Q at D KQ ⊢
  exact bodyPost_ret (v := .tuple #[.agg zc,.bool false]) (by simp [results,Tryz.results146,go_sem,D.cells]) rfl (by rw [HT.out,HTB.out];first | exact ⟨Sv.zero,[],rfl,OwnS.nothing _ _,KQ⟩ | exact ⟨Sv.zero,rfl,⟨[],OwnS.nothing _ _⟩,KQ⟩)
 have R:=qcP.1 hb
 have hsm:qai s <= 1500:=R.small
 obtain ⟨hn0,hn1⟩:=R.now
 obtain ⟨hc0,hc1⟩:=R.cpus
 obtain ⟨hq0,hq1⟩:=R.seq
 obtain ⟨hm0,hm1⟩:=R.missed
 have htr:=R.trace
 have HR:Hid (SysR s):=R
 clear R
 have hrn:rn <= 400:=by rw [<- Hrl.out];exact htr
 have hgn:gn <= 12:=by rw [<- Hgl.out];exact HR.out.few.2.2.1
 have htn:tn <= 12:=by rw [<- Hn.out];exact HR.out.few.1
 go_wp2_with fail
 refine (qdS (HS.out.keeps k1)).mono ?_
 rintro e w2 ⟨vo,vso,rfl,o2,k2⟩
 obtain ⟨⟨ta',tn',tcap'⟩,⟨la',ln',lcap'⟩,⟨ga',gn',gcap'⟩,⟨fa',fn',fcap'⟩,⟨ra',rn',rcap'⟩⟩:=vo
 have O2:Hid (OwnS w2 w1.heap.size ⟨⟨ta',tn',tcap'⟩,⟨la',ln',lcap'⟩,⟨ga',gn',gcap'⟩,⟨fa',fn',fcap'⟩,⟨ra',rn',rcap'⟩⟩ vso s):=o2
 have k02:Hid (Keeps Z w2):=k1.trans k2
 have hZ1:Hid (Z.heap.size <= w1.heap.size):=k1.size
 have Hn':Hid (s.tasks.length=tn'):=(o2.t.row qao).1
 have htn':tn' <= 12:=by rw [<- Hn'.out];exact HR.out.few.1
 have Hf':Hid (s.floors.length=fn'):=(o2.f.row qaW).1
 have hfn':fn' <= 4:=by rw [<- Hf'.out];exact HR.out.few.2.2.2
 have g0:=VarG.start o2 k2.size
 clear o2
 go_upto_region 4 with fail
 change Code.wp _ _ _ _ (w2.alloc (.cells (syc s ⟨⟨ta',tn',tcap'⟩,⟨la',ln',lcap'⟩,⟨ga',gn',gcap'⟩,⟨fa',fn',fcap'⟩,⟨ra',rn',rcap'⟩⟩) 30))
 have hob:Hid (w2.heap.size=w2.heap.size):=rfl
 have K0:Keeps Z (w2.alloc (.cells (syc s ⟨⟨ta',tn',tcap'⟩,⟨la',ln',lcap'⟩,⟨ga',gn',gcap'⟩,⟨fa',fn',fcap'⟩,⟨ra',rn',rcap'⟩⟩) 30)):=k02.out.alloc _
 generalize w2.alloc (.cells (syc s ⟨⟨ta',tn',tcap'⟩,⟨la',ln',lcap'⟩,⟨ga',gn',gcap'⟩,⟨fa',fn',fcap'⟩,⟨ra',rn',rcap'⟩⟩) 30)=X0 at *
 generalize w2.heap.size=ob at *
 have G0:Hid (VarG w2 w1.heap.size ⟨⟨ta',tn',tcap'⟩,⟨la',ln',lcap'⟩,⟨ga',gn',gcap'⟩,⟨fa',fn',fcap'⟩,⟨ra',rn',rcap'⟩⟩ vso X0 ob ⟨⟨ta',tn',tcap'⟩,⟨la',ln',lcap'⟩,⟨ga',gn',gcap'⟩,⟨fa',fn',fcap'⟩,⟨ra',rn',rcap'⟩⟩ vso s):=g0
 clear g0 k1 k2 hob
 have ewr:IntKind.i64.wrap ((rn:Int)+s.cpus)=(rn:Int)+s.cpus:=Go.IntWalk.i64_in _ (by omega)
 obtain ⟨tb,HTB⟩:∃ b,Hid (qbx s=b):=⟨_,rfl⟩
 go_cut [32] (fun c wx=>c = .bool (!tb) /\ wx=X0)
 case first =>
  cases c1:(s.now==100000)
  rotate_left
  ·have hr:tb=false:=by rw [<- HTB.out];unfold qbx;rw [hb,c1];rfl
   go_wp2
   go_meet
   exact ⟨by rw [hr];rfl,rfl⟩
  cases c2:decide (900000 < s.seq)
  rotate_left
  ·have hr:tb=false:=by rw [<- HTB.out];unfold qbx;rw [hb,c1,c2];rfl
   have c2':900000 < s.seq:=by simpa using c2
   clear c2
   go_wp2
   go_meet
   exact ⟨by rw [hr];rfl,rfl⟩
  have hr:tb = !decide (400 < (rn:Int)+s.cpus):=by rw [<- HTB.out];unfold qbx;rw [hb,c1,c2,Hrl.out];rfl
  have c2':¬ 900000 < s.seq:=by simpa using c2
  go_wp2
  go_meet
  exact ⟨by rw [hr,Bool.not_not],rfl⟩
 case rest =>
 obtain ⟨rfl,hwc⟩:=hcut
 have hwc2:=hwc.symm
 subst hwc2
 cases tb
 ·clear ewr
  have HT:Hid (qaz s=s):=by show _=_;unfold qaz;rw [HTB.out,hb];rfl
  have KX:Keeps Z X0:=G0.out.keepsZ O2.out k02.out hZ1.out
  obtain ⟨_,o1,o2⟩:=G0.out.var.box
  dsimp only [syc] at o1
  obtain ⟨_,r1,r2⟩:=R0.out.keeps KX
  go_wp2
  have D:=(R0.out.keeps KX).putC (syc (s:Sy) ⟨⟨ta',tn',tcap'⟩,⟨la',ln',lcap'⟩,⟨ga',gn',gcap'⟩,⟨fa',fn',fcap'⟩,⟨ra',rn',rcap'⟩⟩).toList rfl
  have KQ:=Keeps.putC (b:=w.heap.size+1) (by omega) (syc (s:Sy) ⟨⟨ta',tn',tcap'⟩,⟨la',ln',lcap'⟩,⟨ga',gn',gcap'⟩,⟨fa',fn',fcap'⟩,⟨ra',rn',rcap'⟩⟩).toList 0 (kZ.trans KX)
  have SQ:OwnS (putC X0 (w.heap.size+1) 0 (syc (s:Sy) ⟨⟨ta',tn',tcap'⟩,⟨la',ln',lcap'⟩,⟨ga',gn',gcap'⟩,⟨fa',fn',fcap'⟩,⟨ra',rn',rcap'⟩⟩).toList) w.heap.size ⟨⟨ta',tn',tcap'⟩,⟨la',ln',lcap'⟩,⟨ga',gn',gcap'⟩,⟨fa',fn',fcap'⟩,⟨ra',rn',rcap'⟩⟩ vso (s):=(OwnS.farC (c:=w.heap.size+1) (fun i hi=>by have:=(G0.out.var.own.blkLt hi).1;have:=hz.out;have:=hZ1.out;omega) _ _ G0.out.var.own).base (by have:=hz.out;have:=hZ1.out;omega)
  change bodyPost _ _ _ _ _ (putC X0 (w.heap.size+1) 0 (syc (s:Sy) ⟨⟨ta',tn',tcap'⟩,⟨la',ln',lcap'⟩,⟨ga',gn',gcap'⟩,⟨fa',fn',fcap'⟩,⟨ra',rn',rcap'⟩⟩).toList)
  generalize putC X0 (w.heap.size+1) 0 (syc (s:Sy) ⟨⟨ta',tn',tcap'⟩,⟨la',ln',lcap'⟩,⟨ga',gn',gcap'⟩,⟨fa',fn',fcap'⟩,⟨ra',rn',rcap'⟩⟩).toList=Q at D KQ SQ ⊢
  exact bodyPost_ret (v := .tuple #[.agg (syc (s:Sy) ⟨⟨ta',tn',tcap'⟩,⟨la',ln',lcap'⟩,⟨ga',gn',gcap'⟩,⟨fa',fn',fcap'⟩,⟨ra',rn',rcap'⟩⟩),.bool false]) (by simp [results,Tryz.results146,go_sem,D.cells]) rfl (by rw [HT.out,HTB.out];first | exact ⟨_,vso,rfl,SQ,KQ⟩ | exact ⟨_,rfl,⟨_,SQ⟩,KQ⟩)
 have hq2:s.seq <= 900000:=by
  have:=HTB.out
  unfold qbx at this
  simp at this
  omega
 have hr2:(rn:Int)+s.cpus <= 400:=by
  have:=HTB.out
  unfold qbx at this
  rw [Hrl.out] at this
  simp at this
  omega
 obtain ⟨_,o1,o2⟩:=G0.out.var.box
 dsimp only [syc] at o1
 go_upto_region 7 with fail
 have G1:Hid (VarG w2 w1.heap.size ⟨⟨ta',tn',tcap'⟩,⟨la',ln',lcap'⟩,⟨ga',gn',gcap'⟩,⟨fa',fn',fcap'⟩,⟨ra',rn',rcap'⟩⟩ vso (X0.setCell ⟨ob,4,none⟩ (.slice none 0 0)) ob ⟨⟨ta',tn',tcap'⟩,⟨la',ln',lcap'⟩,⟨none,0,0⟩,⟨fa',fn',fcap'⟩,⟨ra',rn',rcap'⟩⟩ vso { s with ghosts:=[] }):=G0.out.ghosts (Keeps.refl _) (x:=⟨none,0,0⟩) (World.ownsRow_nil _ _ _ _) (World.grownBy.refl _ _) (fun q hq=>by simp [Value.ownBlock] at hq)
 clear o1 o2 G0 K0 ewr
 generalize X0.setCell ⟨ob,4,none⟩ (.slice none 0 0)=X1 at *
 go_upto_block 0 with fail
 go_cut [] (fun wx=>∃ (a:Option Addr) (n c:Nat),Hid (VarG w2 w1.heap.size ⟨⟨ta',tn',tcap'⟩,⟨la',ln',lcap'⟩,⟨ga',gn',gcap'⟩,⟨fa',fn',fcap'⟩,⟨ra',rn',rcap'⟩⟩ vso wx ob ⟨⟨ta',tn',tcap'⟩,⟨la',ln',lcap'⟩,⟨a,n,c⟩,⟨fa',fn',fcap'⟩,⟨ra',rn',rcap'⟩⟩ vso { s with ghosts:=s.ghosts.filter (fun g=>decide (s.now < g.til)) }))
 case first=>as_aux_lemma =>
  go_wp2
  go_loopw [5] (fun i wr=>∃ (k:Nat) (a:Option Addr) (n c:Nat) (gs:List Gh),k <= gn /\ i = .int .i64 k /\ Hid (VarG w2 w1.heap.size ⟨⟨ta',tn',tcap'⟩,⟨la',ln',lcap'⟩,⟨ga',gn',gcap'⟩,⟨fa',fn',fcap'⟩,⟨ra',rn',rcap'⟩⟩ vso wr ob ⟨⟨ta',tn',tcap'⟩,⟨la',ln',lcap'⟩,⟨a,n,c⟩,⟨fa',fn',fcap'⟩,⟨ra',rn',rcap'⟩⟩ vso { s with ghosts:=gs }) /\ Hid (gs=(s.ghosts.take k).filter (fun g=>decide (s.now < g.til))) /\ gs.length <= k) (fun i _=>gn - (intOf i).toNat)
  case atStart=>exact ⟨0,none,0,0,[],Nat.zero_le _,rfl,G1,by show _=_;simp,by simp⟩
  case round =>
   obtain ⟨k,a,n,c,gs,hk,rfl,G,Hgs,hgs⟩:=hrel
   have KW:Keeps Z wr:=G.out.keepsZ O2.out k02.out hZ1.out
   clear G1
   by_cases hlt:k < gn
   ·have hlt':(k:Int) < (gn:Int):=by omega
    obtain ⟨x,hx⟩:=qal (xs:=s.ghosts) (k:=k) (by rw [Hgl.out];exact hlt)
    have hg0:Gs Z ga s.ghosts:=HS.out.lay.g
    obtain ⟨gb,goff,rfl,q0,q1⟩:=hg0.at hx (by omega)
    have Hx:Hid (s.ghosts[k]?=some x):=hx
    clear hx hg0
    go_upto_region 10 with fail
    refine wp_region_held_drew (S:=(fun w'=>Keeps Z w')) (by kernel_rfl) ?_ (fun hHeld => ?_)
    ·exact KW.drew
    refine Plan.go [0,1,2,3,4,5,6,7,8] ?_
    iterate 9 (refine qac (by simp only [qab];rfl) (by kernel_rfl) (by exact fun _ _ _ h=>h) (by rfl) (by assumption) (fun w _=>by go_simp;try (with_reducible rfl)) ?_;try simp only [qaa])
    refine Plan.nil ?_
    refine wpAnyH_done (by kernel_rfl) ?_ _
    cases c5:decide (s.now < x.til)
    ·have HG:Hid (gs=(s.ghosts.take (k+1)).filter (fun g=>decide (s.now < g.til))):=by show _=_;rw [qfA _ Hx.out,<- Hgs.out,c5];simp
     go_wp2
     exact ⟨⟨k+1,a,n,c,gs,by omega,by go_num,G.out.keeps (Keeps.refl _).drew,HG,by omega⟩,by simp only [intOf];omega⟩
    ·have c5':s.now < x.til:=by simpa using c5
     have HG:Hid (gs++[x]=(s.ghosts.take (k+1)).filter (fun g=>decide (s.now < g.til))):=by show _=_;rw [qfA _ Hx.out,<- Hgs.out,c5];simp
     go_upto_region 11 with fail
     have G2:Hid (VarG w2 w1.heap.size ⟨⟨ta',tn',tcap'⟩,⟨la',ln',lcap'⟩,⟨ga',gn',gcap'⟩,⟨fa',fn',fcap'⟩,⟨ra',rn',rcap'⟩⟩ vso wr.drew ob ⟨⟨ta',tn',tcap'⟩,⟨la',ln',lcap'⟩,⟨a,n,c⟩,⟨fa',fn',fcap'⟩,⟨ra',rn',rcap'⟩⟩ vso { s with ghosts:=gs }):=G.out.keeps (Keeps.refl _).drew
     have KW2:Keeps Z wr.drew:=KW.drew
     clear G KW
     generalize wr.drew=X at *
     have H0:Hid (Has Z ob (syc ({ s with ghosts:=gs }:Sy) ⟨⟨ta',tn',tcap'⟩,⟨la',ln',lcap'⟩,⟨a,n,c⟩,⟨fa',fn',fcap'⟩,⟨ra',rn',rcap'⟩⟩) X):=⟨KW2,G2.out.var.box⟩
     have e0:∀ w',Has Z ob (syc ({ s with ghosts:=gs }:Sy) ⟨⟨ta',tn',tcap'⟩,⟨la',ln',lcap'⟩,⟨a,n,c⟩,⟨fa',fn',fcap'⟩,⟨ra',rn',rcap'⟩⟩) w'->∀ j,w'.cell? ⟨ob,j,none⟩=(syc ({ s with ghosts:=gs }:Sy) ⟨⟨ta',tn',tcap'⟩,⟨la',ln',lcap'⟩,⟨a,n,c⟩,⟨fa',fn',fcap'⟩,⟨ra',rn',rcap'⟩⟩)[j]?:=fun w' hh=>hh.box.cells
     have e1:∀ w',Has Z ob (syc ({ s with ghosts:=gs }:Sy) ⟨⟨ta',tn',tcap'⟩,⟨la',ln',lcap'⟩,⟨a,n,c⟩,⟨fa',fn',fcap'⟩,⟨ra',rn',rcap'⟩⟩) w'->∀ j,w'.cell? ⟨w.heap.size,j,none⟩=_:=fun w' hh=>hb0 w' hh.keeps
     have e2:∀ w',Has Z ob (syc ({ s with ghosts:=gs }:Sy) ⟨⟨ta',tn',tcap'⟩,⟨la',ln',lcap'⟩,⟨a,n,c⟩,⟨fa',fn',fcap'⟩,⟨ra',rn',rcap'⟩⟩) w'->w'.cell? ⟨gb,goff+k*4,none⟩=_:=fun w' hh=>q0 w' hh.keeps
     have e3:∀ w',Has Z ob (syc ({ s with ghosts:=gs }:Sy) ⟨⟨ta',tn',tcap'⟩,⟨la',ln',lcap'⟩,⟨a,n,c⟩,⟨fa',fn',fcap'⟩,⟨ra',rn',rcap'⟩⟩) w'->∀ j,j < 4->w'.cell? ⟨gb,goff+k*4+j,none⟩=_:=fun w' hh=>q1 w' hh.keeps
     dsimp only [syc] at e0
     refine qcs 10 (S:=(fun w'=>Has Z ob (syc ({ s with ghosts:=gs }:Sy) ⟨⟨ta',tn',tcap'⟩,⟨la',ln',lcap'⟩,⟨a,n,c⟩,⟨fa',fn',fcap'⟩,⟨ra',rn',rcap'⟩⟩) w')) (by kernel_rfl) ?_ (fun hHeld => ?_)
     ·exact H0.out.go (Keeps.refl _).drew
     refine Plan.go [0,1,2,3,4,5,6] ?_
     iterate 7 (refine qbp (by simp only [qab];rfl) (by kernel_rfl) (by exact fun _ _ _ h=>h) (by rfl) (by assumption) (fun w _=>by go_simp;try (with_reducible rfl)) ?_;try simp only [qaa])
     refine Plan.nil ?_
     refine qbh (i:=7) (by kernel_rfl) (by simp only [List.getElem?_toArray,List.getElem?_cons_succ,List.getElem?_cons_zero];rfl) (fun K hK => ?_)
     go_simp
     try go_wp2_with fail
     refine hK.out _ _ ?_ (fun hHeld => ?_)
     ·exact Has.go (by assumption) ((Keeps.refl _).alloc _)
     clear hK K
     try simp only [qaa]
     refine qbh (i:=8) (by kernel_rfl) (by simp only [List.getElem?_toArray,List.getElem?_cons_succ,List.getElem?_cons_zero];rfl) (fun K hK => ?_)
     (refine qbU rfl (.tmp 52) (.tmp 58) 26 rfl w1.heap.size 87 (.agg (ghc Gh.zero)) 4 32 ghc Tryz.underlying26 (by kernel_rfl) rfl (by decide) qb5 qel (.slice a n c) gs (by simp [Act.eval]) (G2.out.var.own.g.keeps ((Keeps.refl X).alloc _).drew) (by have:=G2.out.var.lob;have:=G2.out.var.box.lt;simp;omega) [x] _ 0 1 (qb3 ((Blk.new X (ghc x) 87).keeps (Keeps.refl _).drew)) (by simp [Act.eval]) (by simp [maxLen];omega) (by simp;omega) ?_;intro v7 w7 o7 g7 f7;obtain ⟨a7,c7,e7⟩:=o7.form qb5;obtain ⟨m7,Hm7⟩:∃ m,Hid ((gs++[x]).length=m):=⟨_,rfl⟩;rw [Hm7.out] at e7;subst e7;have G3:Hid (VarG w2 w1.heap.size ⟨⟨ta',tn',tcap'⟩,⟨la',ln',lcap'⟩,⟨ga',gn',gcap'⟩,⟨fa',fn',fcap'⟩,⟨ra',rn',rcap'⟩⟩ vso (w7.setCell ⟨ob,4,none⟩ (.slice a7 m7 c7)) ob ⟨⟨ta',tn',tcap'⟩,⟨la',ln',lcap'⟩,⟨a7,m7,c7⟩,⟨fa',fn',fcap'⟩,⟨ra',rn',rcap'⟩⟩ vso { s with ghosts:=gs++[x] }):=G2.out.ghosts ((Keeps.refl X).alloc _).drew (x:=⟨a7,m7,c7⟩) o7 g7 (fun q hq=>(f7 q hq).imp id (fun e=>by rw [e];simp)))
     refine hK.out _ _ ?_ (fun hHeld => ?_)
     ·exact ⟨Keeps.grown ((KW2.alloc _).drew) g7 (fun q hq=>by have:=(G2.out.var.own.blkLt (i:=2) hq).1;have:=hZ1.out;omega),(G2.out.var.box.keeps ((Keeps.refl X).alloc _).drew).grown g7 (fun q e e2=>G2.out.var.far 2 (by rw [<- e2];exact e))⟩
     clear hK K
     try simp only [qaa]
     refine Plan.go [9] ?_
     iterate 1 (refine qbp (by simp only [qab];rfl) (by kernel_rfl) (by exact fun _ _ _ h=>h) (by rfl) (by assumption) (fun w _=>by go_simp;try (with_reducible rfl)) ?_;try simp only [qaa])
     refine Plan.nil ?_
     refine qcr (by kernel_rfl) (by simp only [List.getElem?_toArray,List.getElem?_cons_succ,List.getElem?_cons_zero];rfl) (by kernel_rfl) (fun K hK => ?_)
     have HB7:Has Z ob (syc ({ s with ghosts:=gs }:Sy) ⟨⟨ta',tn',tcap'⟩,⟨la',ln',lcap'⟩,⟨a,n,c⟩,⟨fa',fn',fcap'⟩,⟨ra',rn',rcap'⟩⟩) w7:=(by assumption);obtain ⟨_,z1,z2⟩:=HB7.box
     go_simp
     try go_wp2_with fail
     refine hK.out _ _ ?_
     clear hK K
     try simp only [qaa]
     clear z1 z2 HB7 e0 e1 e2 e3 g7 o7 f7
     go_wp2
     exact ⟨⟨k+1,a7,m7,c7,gs++[x],by omega,by go_num,G3,HG,by simp;omega⟩,by simp only [intOf];omega⟩
   ·have e:k=gn:=by omega
    have HE:Hid (gs=s.ghosts.filter (fun g=>decide (s.now < g.til))):=by
     have h1:=Hgs.out
     rw [List.take_of_length_le (by have:=Hgl.out;omega)] at h1
     exact h1
    rw [HE.out] at G
    subst e
    go_wp2
    go_meet
    exact ⟨a,n,c,G⟩
 case rest =>
 obtain ⟨xa,xn,xc,G2⟩:=hcut
 clear G1
 go_upto_block 2 with fail
 go_cut [] (fun wx=>Hid (VarG w2 w1.heap.size ⟨⟨ta',tn',tcap'⟩,⟨la',ln',lcap'⟩,⟨ga',gn',gcap'⟩,⟨fa',fn',fcap'⟩,⟨ra',rn',rcap'⟩⟩ vso wx ob ⟨⟨ta',tn',tcap'⟩,⟨la',ln',lcap'⟩,⟨xa,xn,xc⟩,⟨fa',fn',fcap'⟩,⟨ra',rn',rcap'⟩⟩ vso (qaT s)))
 case first =>
  go_wp2
  go_loopw [6] (fun i wr=>∃ (k:Nat) (ms:Int) (ys:List Tsk),k <= tn' /\ i = .int .i64 k /\ 0 <= ms /\ ms <= 100000 /\ Hid (VarG w2 w1.heap.size ⟨⟨ta',tn',tcap'⟩,⟨la',ln',lcap'⟩,⟨ga',gn',gcap'⟩,⟨fa',fn',fcap'⟩,⟨ra',rn',rcap'⟩⟩ vso wr ob ⟨⟨ta',tn',tcap'⟩,⟨la',ln',lcap'⟩,⟨xa,xn,xc⟩,⟨fa',fn',fcap'⟩,⟨ra',rn',rcap'⟩⟩ vso { s with ghosts:=s.ghosts.filter (fun g=>decide (s.now < g.til)),missed:=ms,tasks:=ys }) /\ Hid (ms=(s.tasks.take k).foldl (qch s.now) s.missed) /\ Hid (ys.length=tn') /\ Hid (∀ (j:Nat) (t:Tsk),s.tasks[j]?=some t->ys[j]?=some (if j < k then qbN s.now t else t))) (fun i _=>tn' - (intOf i).toNat)
  case atStart=>exact ⟨0,s.missed,s.tasks,Nat.zero_le _,rfl,hm0,hm1,G2,by show _=_;simp,Hn',fun j t hj=>by simpa using hj⟩
  case round =>
   obtain ⟨k,ms,ys,hk,rfl,hms0,hms1,G,Hms,hy,hf⟩:=hrel
   have KW:Keeps Z wr:=G.out.keepsZ O2.out k02.out hZ1.out
   clear G2
   by_cases hlt:k < tn'
   ·have hlt':(k:Int) < (tn':Int):=by omega
    obtain ⟨t,ht⟩:=qal (xs:=s.tasks) (k:=k) (by rw [Hn'.out];exact hlt)
    have HT:Hid (s.tasks[k]?=some t):=ht
    have Hy:Hid (ys[k]?=some t):=by have:=hf.out k t ht;rw [if_neg (by omega)] at this;exact this
    obtain ⟨rb,hrb⟩:=G.out.var.own.tasksAt (k:=k) (by show _ < ys.length;rw [hy.out];exact hlt)
    dsimp only at hrb
    subst hrb
    have b0:∀ w',Keeps wr w'->∀ j,w'.cell? ⟨ob,j,none⟩=(syc ({ s with ghosts:=s.ghosts.filter (fun g=>decide (s.now < g.til)),missed:=ms,tasks:=ys }:Sy) ⟨⟨some ⟨rb,0,none⟩,tn',tcap'⟩,⟨la',ln',lcap'⟩,⟨xa,xn,xc⟩,⟨fa',fn',fcap'⟩,⟨ra',rn',rcap'⟩⟩)[j]?:=fun w' kk=>(G.out.var.box.keeps kk).cells
    have b1:∀ w',Keeps wr w'->∀ j,w'.cell? ⟨w.heap.size,j,none⟩=_:=fun w' kk=>hb0 w' (KW.trans kk)
    have hrbl:rb < wr.heap.size:=(G.out.var.own.blkLt (i:=0) (b:=rb) rfl).2
    have zz:=(G.out.var.own.taskCells (rb:=rb) rfl (k:=k) (t:=t) Hy.out).1
    have b2:∀ w',Keeps wr w'->∀ j,j < 14->w'.cell? ⟨rb,k*14+j,none⟩=(tc t)[j]?:=fun w' kk j hj=>(kk.cells rb _ hrbl).trans (zz j hj)
    have b3:∀ w',Keeps wr w'->w'.cell? ⟨rb,k*14,none⟩=some (.int .i64 t.no):=fun w' kk=>b2 w' kk 0 (by omega)
    have b4:∀ w',Keeps wr w'->∀ j,w'.frozen? ⟨ob,j,none⟩=false:=fun w' kk j=>(G.out.var.box.keeps kk).frozens j
    have hobl:ob < wr.heap.size:=G.out.var.box.lt
    have hob1:ob≠wr.heap.size:=by omega
    have hsbl:w.heap.size < wr.heap.size:=by have:=KW.size;have:=hz.out;omega
    have hsb1:w.heap.size≠wr.heap.size:=by omega
    dsimp only [syc] at b0
    clear ht zz
    cases c1:(t.cls != 1)
    rotate_left
    ·have c1':(t.cls==1)=false:=by simpa [bne] using c1
     have HDN:Hid (qcw s.now t=false):=by show _=_;unfold qcw;rw [c1'];rfl
     have HM:Hid (ms=(s.tasks.take (k+1)).foldl (qch s.now) s.missed):=by show _=_;rw [qb6 HT.out,List.foldl_append,<- Hms.out];simp [qch,HDN.out]
     go_wp2
     refine ⟨⟨k+1,ms,ys,by omega,by go_num,hms0,hms1,G.out.keeps ((Keeps.refl _).alloc _),HM,hy,?_⟩,by simp only [intOf];omega⟩
     intro j t2 hj
     by_cases e:j=k
     ·subst e
      rw [HT.out] at hj
      cases hj
      rw [if_pos (by omega)]
      rw [show qbN s.now t=t from by unfold qbN;rw [HDN.out];rfl];have:=hf.out j t HT.out;rw [if_neg (by omega)] at this;exact this
     ·have:=hf.out j t2 hj
      by_cases h3:j < k
      ·rw [if_pos h3] at this;rw [if_pos (by omega)];first | exact this | (rw [List.getElem?_set_ne (Ne.symm e)];exact this)
      ·rw [if_neg h3] at this;rw [if_neg (by omega)];first | exact this | (rw [List.getElem?_set_ne (Ne.symm e)];exact this)
    have c1':(t.cls==1)=true:=by simpa [bne] using c1
    cases c2:t.idle
    rotate_left
    ·skip
     have HDN:Hid (qcw s.now t=false):=by show _=_;unfold qcw;rw [c1',c2];rfl
     have HM:Hid (ms=(s.tasks.take (k+1)).foldl (qch s.now) s.missed):=by show _=_;rw [qb6 HT.out,List.foldl_append,<- Hms.out];simp [qch,HDN.out]
     go_wp2
     refine ⟨⟨k+1,ms,ys,by omega,by go_num,hms0,hms1,G.out.keeps ((Keeps.refl _).alloc _),HM,hy,?_⟩,by simp only [intOf];omega⟩
     intro j t2 hj
     by_cases e:j=k
     ·subst e
      rw [HT.out] at hj
      cases hj
      rw [if_pos (by omega)]
      rw [show qbN s.now t=t from by unfold qbN;rw [HDN.out];rfl];have:=hf.out j t HT.out;rw [if_neg (by omega)] at this;exact this
     ·have:=hf.out j t2 hj
      by_cases h3:j < k
      ·rw [if_pos h3] at this;rw [if_pos (by omega)];first | exact this | (rw [List.getElem?_set_ne (Ne.symm e)];exact this)
      ·rw [if_neg h3] at this;rw [if_neg (by omega)];first | exact this | (rw [List.getElem?_set_ne (Ne.symm e)];exact this)
    cases c3:decide (s.now < t.due)
    rotate_left
    ·have c3':s.now < t.due:=by simpa using c3
     have c3'':decide (t.due <= s.now)=false:=by simp;omega
     have HDN:Hid (qcw s.now t=false):=by show _=_;unfold qcw;rw [c1',c2,c3''];rfl
     have HM:Hid (ms=(s.tasks.take (k+1)).foldl (qch s.now) s.missed):=by show _=_;rw [qb6 HT.out,List.foldl_append,<- Hms.out];simp [qch,HDN.out]
     go_wp2
     refine ⟨⟨k+1,ms,ys,by omega,by go_num,hms0,hms1,G.out.keeps ((Keeps.refl _).alloc _),HM,hy,?_⟩,by simp only [intOf];omega⟩
     intro j t2 hj
     by_cases e:j=k
     ·subst e
      rw [HT.out] at hj
      cases hj
      rw [if_pos (by omega)]
      rw [show qbN s.now t=t from by unfold qbN;rw [HDN.out];rfl];have:=hf.out j t HT.out;rw [if_neg (by omega)] at this;exact this
     ·have:=hf.out j t2 hj
      by_cases h3:j < k
      ·rw [if_pos h3] at this;rw [if_pos (by omega)];first | exact this | (rw [List.getElem?_set_ne (Ne.symm e)];exact this)
      ·rw [if_neg h3] at this;rw [if_neg (by omega)];first | exact this | (rw [List.getElem?_set_ne (Ne.symm e)];exact this)
    have c3'':decide (t.due <= s.now)=true:=by simp at c3;simp;omega
    have c3n:¬ s.now < t.due:=by simpa using c3
    have HDN:Hid (qcw s.now t=true):=by show _=_;unfold qcw;rw [c1',c2,c3''];rfl
    have eT:({ t with idle:=false }:Tsk)=t:=by rw [<- c2]
    have FT:Hid (∀ i,¬ qaf ⟨⟨some ⟨rb,0,none⟩,tn',tcap'⟩,⟨la',ln',lcap'⟩,⟨xa,xn,xc⟩,⟨fa',fn',fcap'⟩,⟨ra',rn',rcap'⟩⟩ vso i wr.heap.size):=fun i hi=>by have:=(G.out.var.own.blkLt hi).2;omega
    have hm1w:IntKind.i64.wrap (ms+1)=ms+1:=Go.IntWalk.i64_in _ (by omega)
    cases c4:decide (0 < t.left)
    ·have c4':¬ 0 < t.left:=by simpa using c4
     go_upto_region 19 with fail
     have GX:Hid (VarG w2 w1.heap.size ⟨⟨some ⟨rb,0,none⟩,tn',tcap'⟩,⟨la',ln',lcap'⟩,⟨ga',gn',gcap'⟩,⟨fa',fn',fcap'⟩,⟨ra',rn',rcap'⟩⟩ vso (wr.alloc (.cells (tc { t with idle:=false }) 43)) ob ⟨⟨some ⟨rb,0,none⟩,tn',tcap'⟩,⟨la',ln',lcap'⟩,⟨xa,xn,xc⟩,⟨fa',fn',fcap'⟩,⟨ra',rn',rcap'⟩⟩ vso { s with ghosts:=s.ghosts.filter (fun g=>decide (s.now < g.til)),missed:=ms,tasks:=ys }):=G.out.keeps ((Keeps.refl _).alloc _)
     have TX0:Blk (wr.alloc (.cells (tc { t with idle:=false }) 43)) wr.heap.size (tc { t with idle:=false }):=Blk.new _ _ _
     change Code.wp _ _ _ _ (wr.alloc (.cells (tc { t with idle:=false }) 43))
     clear b0 b1 b2 b3 b4 hob1 hsb1 hobl hsbl hrbl G KW
     generalize wr.alloc (.cells (tc { t with idle:=false }) 43)=X1 at *
     generalize wr.heap.size=tb at *
     rw [eT] at TX0
     have TX:Hid (Blk X1 tb (tc t)):=TX0
     clear TX0 eT c2 c1 c1' c3 c3'' c3n c4'
     have KX:Keeps Z X1:=GX.out.keepsZ O2.out k02.out hZ1.out
     have e0:∀ w',Keeps X1 w'->∀ j,w'.cell? ⟨ob,j,none⟩=(syc ({ s with ghosts:=s.ghosts.filter (fun g=>decide (s.now < g.til)),missed:=ms,tasks:=ys }:Sy) ⟨⟨some ⟨rb,0,none⟩,tn',tcap'⟩,⟨la',ln',lcap'⟩,⟨xa,xn,xc⟩,⟨fa',fn',fcap'⟩,⟨ra',rn',rcap'⟩⟩)[j]?:=fun w' kk=>(GX.out.var.box.keeps kk).cells
     have e1:∀ w',Keeps X1 w'->∀ j,w'.cell? ⟨w.heap.size,j,none⟩=_:=fun w' kk=>hb0 w' (KX.trans kk)
     have e2:∀ w',Keeps X1 w'->∀ j,w'.cell? ⟨tb,j,none⟩=(tc t)[j]?:=fun w' kk=>(TX.out.keeps kk).cells
     dsimp only [syc] at e0
     obtain ⟨NT,HNT⟩:∃ N,Hid (qbZ t s.now=N):=⟨_,rfl⟩
     refine qcs 8 (S:=(fun w'=>Keeps X1 w')) (by kernel_rfl) ?_ (fun hHeld => ?_)
     ·exact (Keeps.refl X1).drew
     refine Plan.go [0,1,2,3,4,5] ?_
     iterate 6 (refine qbp (by simp only [qab];rfl) (by kernel_rfl) (by exact fun _ _ _ h=>h) (by rfl) (by assumption) (fun w _=>by go_simp;try (with_reducible rfl)) ?_;try simp only [qaa])
     refine Plan.nil ?_
     refine qbh (i:=6) (by kernel_rfl) (by simp only [List.getElem?_toArray,List.getElem?_cons_succ,List.getElem?_cons_zero];rfl) (fun K hK => ?_)
     go_simp
     (go_at_call 176;refine (qfY t s.now _).mono ?_;rintro e w8 ⟨rfl,k8⟩;rw [HNT.out])
     try go_wp2_with fail
     refine hK.out _ _ ?_ (fun hHeld => ?_)
     ·exact Keeps.trans (by assumption) (by assumption)
     clear hK K
     try simp only [qaa]
     refine Plan.go [7] ?_
     iterate 1 (refine qbp (by simp only [qab];rfl) (by kernel_rfl) (by exact fun _ _ _ h=>h) (by rfl) (by assumption) (fun w _=>by go_simp;try (with_reducible rfl)) ?_;try simp only [qaa])
     refine Plan.nil ?_
     refine qcr (by kernel_rfl) (by simp only [List.getElem?_toArray,List.getElem?_cons_succ,List.getElem?_cons_zero];rfl) (by kernel_rfl) (fun K hK => ?_)
     have K8:Keeps X1 w8:=(by assumption);have G8:=GX.out.keeps K8;obtain ⟨z1,z2⟩:=G8.var.own.taskCells (rb:=rb) rfl (k:=k) (t:=t) Hy.out;have y0:w8.cell? ⟨rb,k*14,none⟩=some (.int .i64 t.no):=z1 0 (by omega)
     go_simp
     try go_wp2_with fail
     refine hK.out _ _ ?_
     clear hK K
     try simp only [qaa]
     have G9:Hid (VarG w2 w1.heap.size ⟨⟨some ⟨rb,0,none⟩,tn',tcap'⟩,⟨la',ln',lcap'⟩,⟨ga',gn',gcap'⟩,⟨fa',fn',fcap'⟩,⟨ra',rn',rcap'⟩⟩ vso (putC w8 rb (k*14) (tc NT).toList) ob ⟨⟨some ⟨rb,0,none⟩,tn',tcap'⟩,⟨la',ln',lcap'⟩,⟨xa,xn,xc⟩,⟨fa',fn',fcap'⟩,⟨ra',rn',rcap'⟩⟩ vso { s with ghosts:=s.ghosts.filter (fun g=>decide (s.now < g.til)),missed:=ms,tasks:=ys.set k NT }):=G8.task (rb:=rb) rfl (by show _ < ys.length;rw [hy.out];exact hlt) NT
     change Exit.inBlock _ _ _ _ (putC w8 rb (k*14) (tc NT).toList)
     clear z1 z2 y0 G8 K8 e0 e1 e2 hHeld
     generalize putC w8 rb (k*14) (tc NT).toList=X9 at *
     have HM:Hid (ms=(s.tasks.take (k+1)).foldl (qch s.now) s.missed):=by show _=_;rw [qb6 HT.out,List.foldl_append,<- Hms.out];simp [qch,HDN.out,c4]
     go_wp2
     refine ⟨⟨k+1,ms,ys.set k NT,by omega,by go_num,by omega,by omega,G9,HM,by show _=_;simpa using hy.out,?_⟩,by simp only [intOf];omega⟩
     intro j t2 hj
     by_cases e:j=k
     ·subst e
      rw [HT.out] at hj
      cases hj
      rw [if_pos (by omega)]
      rw [show qbN s.now t=NT from by unfold qbN;rw [HDN.out,<- HNT.out];rfl];exact List.getElem?_set_self (by rw [hy.out];exact hlt)
     ·have:=hf.out j t2 hj
      by_cases h3:j < k
      ·rw [if_pos h3] at this;rw [if_pos (by omega)];first | exact this | (rw [List.getElem?_set_ne (Ne.symm e)];exact this)
      ·rw [if_neg h3] at this;rw [if_neg (by omega)];first | exact this | (rw [List.getElem?_set_ne (Ne.symm e)];exact this)
    ·have c4':0 < t.left:=by simpa using c4
     go_upto_region 19 with (go_at_call 109;refine (qa3 _ _ _).mono ?_;rintro e w' ⟨rfl,hw'⟩;have hw2:=hw'.symm;subst hw2)
     have GX:Hid (VarG w2 w1.heap.size ⟨⟨some ⟨rb,0,none⟩,tn',tcap'⟩,⟨la',ln',lcap'⟩,⟨ga',gn',gcap'⟩,⟨fa',fn',fcap'⟩,⟨ra',rn',rcap'⟩⟩ vso ((wr.setCell ⟨ob,7,none⟩ (.int .i64 (min (ms+1) 100000))).alloc (.cells (tc { t with idle:=false }) 43)) ob ⟨⟨some ⟨rb,0,none⟩,tn',tcap'⟩,⟨la',ln',lcap'⟩,⟨xa,xn,xc⟩,⟨fa',fn',fcap'⟩,⟨ra',rn',rcap'⟩⟩ vso { s with ghosts:=s.ghosts.filter (fun g=>decide (s.now < g.til)),missed:=min (ms+1) 100000,tasks:=ys }):=(G.out.num s.now s.cpus s.seq (min (ms+1) 100000) (k:=7) rfl (by omega)).keeps ((Keeps.refl _).alloc _)
     have TX0:Blk ((wr.setCell ⟨ob,7,none⟩ (.int .i64 (min (ms+1) 100000))).alloc (.cells (tc { t with idle:=false }) 43)) wr.heap.size (tc { t with idle:=false }):=by have:=Blk.new (wr.setCell ⟨ob,7,none⟩ (.int .i64 (min (ms+1) 100000))) (tc { t with idle:=false }) 43;simpa using this
     change Code.wp _ _ _ _ ((wr.setCell ⟨ob,7,none⟩ (.int .i64 (min (ms+1) 100000))).alloc (.cells (tc { t with idle:=false }) 43))
     clear b0 b1 b2 b3 b4 hob1 hsb1 hobl hsbl hrbl G KW
     generalize (wr.setCell ⟨ob,7,none⟩ (.int .i64 (min (ms+1) 100000))).alloc (.cells (tc { t with idle:=false }) 43)=X1 at *
     generalize wr.heap.size=tb at *
     rw [eT] at TX0
     have TX:Hid (Blk X1 tb (tc t)):=TX0
     obtain ⟨mm,Hmm⟩:∃ mm,Hid (min (ms+1) 100000=mm):=⟨_,rfl⟩
     have hmm0:0 <= mm:=by have:=Hmm.out;omega
     have hmm1:mm <= 100000:=by have:=Hmm.out;omega
     rw [Hmm.out] at GX
     clear TX0 eT c2 c1 c1' c3 c3'' c3n c4'
     have KX:Keeps Z X1:=GX.out.keepsZ O2.out k02.out hZ1.out
     have e0:∀ w',Keeps X1 w'->∀ j,w'.cell? ⟨ob,j,none⟩=(syc ({ s with ghosts:=s.ghosts.filter (fun g=>decide (s.now < g.til)),missed:=mm,tasks:=ys }:Sy) ⟨⟨some ⟨rb,0,none⟩,tn',tcap'⟩,⟨la',ln',lcap'⟩,⟨xa,xn,xc⟩,⟨fa',fn',fcap'⟩,⟨ra',rn',rcap'⟩⟩)[j]?:=fun w' kk=>(GX.out.var.box.keeps kk).cells
     have e1:∀ w',Keeps X1 w'->∀ j,w'.cell? ⟨w.heap.size,j,none⟩=_:=fun w' kk=>hb0 w' (KX.trans kk)
     have e2:∀ w',Keeps X1 w'->∀ j,w'.cell? ⟨tb,j,none⟩=(tc t)[j]?:=fun w' kk=>(TX.out.keeps kk).cells
     dsimp only [syc] at e0
     obtain ⟨NT,HNT⟩:∃ N,Hid (qbZ t s.now=N):=⟨_,rfl⟩
     refine qcs 8 (S:=(fun w'=>Keeps X1 w')) (by kernel_rfl) ?_ (fun hHeld => ?_)
     ·exact (Keeps.refl X1).drew
     refine Plan.go [0,1,2,3,4,5] ?_
     iterate 6 (refine qbp (by simp only [qab];rfl) (by kernel_rfl) (by exact fun _ _ _ h=>h) (by rfl) (by assumption) (fun w _=>by go_simp;try (with_reducible rfl)) ?_;try simp only [qaa])
     refine Plan.nil ?_
     refine qbh (i:=6) (by kernel_rfl) (by simp only [List.getElem?_toArray,List.getElem?_cons_succ,List.getElem?_cons_zero];rfl) (fun K hK => ?_)
     go_simp
     (go_at_call 176;refine (qfY t s.now _).mono ?_;rintro e w8 ⟨rfl,k8⟩;rw [HNT.out])
     try go_wp2_with fail
     refine hK.out _ _ ?_ (fun hHeld => ?_)
     ·exact Keeps.trans (by assumption) (by assumption)
     clear hK K
     try simp only [qaa]
     refine Plan.go [7] ?_
     iterate 1 (refine qbp (by simp only [qab];rfl) (by kernel_rfl) (by exact fun _ _ _ h=>h) (by rfl) (by assumption) (fun w _=>by go_simp;try (with_reducible rfl)) ?_;try simp only [qaa])
     refine Plan.nil ?_
     refine qcr (by kernel_rfl) (by simp only [List.getElem?_toArray,List.getElem?_cons_succ,List.getElem?_cons_zero];rfl) (by kernel_rfl) (fun K hK => ?_)
     have K8:Keeps X1 w8:=(by assumption);have G8:=GX.out.keeps K8;obtain ⟨z1,z2⟩:=G8.var.own.taskCells (rb:=rb) rfl (k:=k) (t:=t) Hy.out;have y0:w8.cell? ⟨rb,k*14,none⟩=some (.int .i64 t.no):=z1 0 (by omega)
     go_simp
     try go_wp2_with fail
     refine hK.out _ _ ?_
     clear hK K
     try simp only [qaa]
     have G9:Hid (VarG w2 w1.heap.size ⟨⟨some ⟨rb,0,none⟩,tn',tcap'⟩,⟨la',ln',lcap'⟩,⟨ga',gn',gcap'⟩,⟨fa',fn',fcap'⟩,⟨ra',rn',rcap'⟩⟩ vso (putC w8 rb (k*14) (tc NT).toList) ob ⟨⟨some ⟨rb,0,none⟩,tn',tcap'⟩,⟨la',ln',lcap'⟩,⟨xa,xn,xc⟩,⟨fa',fn',fcap'⟩,⟨ra',rn',rcap'⟩⟩ vso { s with ghosts:=s.ghosts.filter (fun g=>decide (s.now < g.til)),missed:=mm,tasks:=ys.set k NT }):=G8.task (rb:=rb) rfl (by show _ < ys.length;rw [hy.out];exact hlt) NT
     change Exit.inBlock _ _ _ _ (putC w8 rb (k*14) (tc NT).toList)
     clear z1 z2 y0 G8 K8 e0 e1 e2 hHeld
     generalize putC w8 rb (k*14) (tc NT).toList=X9 at *
     have HM:Hid (mm=(s.tasks.take (k+1)).foldl (qch s.now) s.missed):=by show _=_;rw [qb6 HT.out,List.foldl_append,<- Hms.out];simp [qch,HDN.out,c4,Hmm.out]
     go_wp2
     refine ⟨⟨k+1,mm,ys.set k NT,by omega,by go_num,by omega,by omega,G9,HM,by show _=_;simpa using hy.out,?_⟩,by simp only [intOf];omega⟩
     intro j t2 hj
     by_cases e:j=k
     ·subst e
      rw [HT.out] at hj
      cases hj
      rw [if_pos (by omega)]
      rw [show qbN s.now t=NT from by unfold qbN;rw [HDN.out,<- HNT.out];rfl];exact List.getElem?_set_self (by rw [hy.out];exact hlt)
     ·have:=hf.out j t2 hj
      by_cases h3:j < k
      ·rw [if_pos h3] at this;rw [if_pos (by omega)];first | exact this | (rw [List.getElem?_set_ne (Ne.symm e)];exact this)
      ·rw [if_neg h3] at this;rw [if_neg (by omega)];first | exact this | (rw [List.getElem?_set_ne (Ne.symm e)];exact this)
   ·have e:k=tn':=by omega
    subst e
    have HE:Hid ({ s with ghosts:=s.ghosts.filter (fun g=>decide (s.now < g.til)),missed:=ms,tasks:=ys }=qaT s):=by
     show _=_
     have h1:=Hms.out
     rw [List.take_of_length_le (by have:=Hn'.out;omega)] at h1
     have h2:ys=s.tasks.map (qbN s.now):=by
      apply List.ext_getElem?
      intro j
      rw [List.getElem?_map]
      cases e:s.tasks[j]? with
      | none =>
       have:s.tasks.length <= j:=List.getElem?_eq_none_iff.1 e
       rw [List.getElem?_eq_none (by rw [hy.out,<- Hn'.out];exact this)];rfl
      | some t =>
       have h3:=hf.out j t e
       rw [if_pos (by have:=qaw e;have:=Hn'.out;omega)] at h3
       exact h3
     unfold qaT
     rw [<- h1,h2]
    rw [HE.out] at G
    have hb9:=G.out.var.box.cells
    dsimp only [syc,qaT] at hb9
    go_wp2
    go_meet
    exact G
 case rest =>
 have G3:Hid (VarG w2 w1.heap.size ⟨⟨ta',tn',tcap'⟩,⟨la',ln',lcap'⟩,⟨ga',gn',gcap'⟩,⟨fa',fn',fcap'⟩,⟨ra',rn',rcap'⟩⟩ vso wc ob ⟨⟨ta',tn',tcap'⟩,⟨la',ln',lcap'⟩,⟨xa,xn,xc⟩,⟨fa',fn',fcap'⟩,⟨ra',rn',rcap'⟩⟩ vso (qaT s)):=hcut
 clear hcut G2
 have hAs:qai (qaT s) <= 1500:=Nat.le_trans (qhG s) hsm
 have hAo:Hid (qdV (qaT s)):=qmn HR.out.onCpus
 have HA1:Hid ((qaT s).cpus=s.cpus):=rfl
 have HA2:Hid ((qaT s).seq=s.seq):=rfl
 have HA3:Hid ((qaT s).now=s.now):=rfl
 have HA4:Hid ((qaT s).floors.length=fn'):=Hf'.out
 have HAT:Hid (qaz s=qeg (qaF (qbe (qaR (qaT s))) s.cpus.toNat)):=by show _=_;unfold qaz;rw [HTB.out];rfl
 generalize qaT s=A at *
 obtain ⟨_,o1,o2⟩:=G3.out.var.box
 dsimp only [syc] at o1
 go_wp2_with fail
 refine (qmr (G3.out.var.own.on (by omega)) hAo.out).mono ?_
 rintro e w4 ⟨vw,vsw,rfl,O4,k4⟩
 obtain ⟨⟨ta4,tn4,tcap4⟩,⟨la4,ln4,lcap4⟩,⟨ga4,gn4,gcap4⟩,⟨fa4,fn4,fcap4⟩,⟨ra4,rn4,rcap4⟩⟩:=vw
 have g4:=G3.out.put (Goes.fresh O4 k4 (by have:=G3.out.var.lob;have:=G3.out.var.box.lt;omega))
 have q4:=(G3.out.var.box.keeps k4)
 obtain ⟨_,q1,q2⟩:=q4
 dsimp only [syc] at q1
 clear o1 o2 O4 k4
 go_upto_block 4 with fail
 have G4:Hid (VarG w2 w1.heap.size ⟨⟨ta',tn',tcap'⟩,⟨la',ln',lcap'⟩,⟨ga',gn',gcap'⟩,⟨fa',fn',fcap'⟩,⟨ra',rn',rcap'⟩⟩ vso (putC w4 ob 0 (syc (qaR A) ⟨⟨ta4,tn4,tcap4⟩,⟨la4,ln4,lcap4⟩,⟨ga4,gn4,gcap4⟩,⟨fa4,fn4,fcap4⟩,⟨ra4,rn4,rcap4⟩⟩).toList) ob ⟨⟨ta4,tn4,tcap4⟩,⟨la4,ln4,lcap4⟩,⟨ga4,gn4,gcap4⟩,⟨fa4,fn4,fcap4⟩,⟨ra4,rn4,rcap4⟩⟩ vsw (qaR A)):=g4
 change Code.wp _ _ _ _ (putC w4 ob 0 (syc (qaR A) ⟨⟨ta4,tn4,tcap4⟩,⟨la4,ln4,lcap4⟩,⟨ga4,gn4,gcap4⟩,⟨fa4,fn4,fcap4⟩,⟨ra4,rn4,rcap4⟩⟩).toList)
 clear g4 q1 q2 G3
 generalize putC w4 ob 0 (syc (qaR A) ⟨⟨ta4,tn4,tcap4⟩,⟨la4,ln4,lcap4⟩,⟨ga4,gn4,gcap4⟩,⟨fa4,fn4,fcap4⟩,⟨ra4,rn4,rcap4⟩⟩).toList=X4 at *
 have hWs:qai (qaR A) <= 1500:=by rw [qhH];exact hAs
 have HW1:Hid ((qaR A).cpus=s.cpus):=HA1.out
 have HW2:Hid ((qaR A).seq=s.seq):=HA2.out
 have HW3:Hid ((qaR A).now=s.now):=HA3.out
 have HW4:Hid ((qaR A).floors.length=fn4):=(G4.out.var.own.f.row qaW).1
 have HW5:Hid ((fn4:Int)=s.cpus):=by show _=_;rw [<- HW4.out,show (qaR A).floors.length=fn' from HA4.out,<- Hf'.out];exact HR.out.floors
 generalize qaR A=W at *
 clear hAs hAo HA1 HA2 HA3 HA4
 go_cut [] (fun wx=>Hid (VarG w2 w1.heap.size ⟨⟨ta',tn',tcap'⟩,⟨la',ln',lcap'⟩,⟨ga',gn',gcap'⟩,⟨fa',fn',fcap'⟩,⟨ra',rn',rcap'⟩⟩ vso wx ob ⟨⟨ta4,tn4,tcap4⟩,⟨la4,ln4,lcap4⟩,⟨ga4,gn4,gcap4⟩,⟨fa4,fn4,fcap4⟩,⟨ra4,rn4,rcap4⟩⟩ vsw (qbe W)))
 case first=>as_aux_lemma =>
  have hf4:fn4 <= 4:=by have:=HW5.out;omega
  go_wp2
  go_loopw [8] (fun i wr=>∃ (k:Nat) (fs:List Int),k <= fn4 /\ i = .int .i64 k /\ Hid (VarG w2 w1.heap.size ⟨⟨ta',tn',tcap'⟩,⟨la',ln',lcap'⟩,⟨ga',gn',gcap'⟩,⟨fa',fn',fcap'⟩,⟨ra',rn',rcap'⟩⟩ vso wr ob ⟨⟨ta4,tn4,tcap4⟩,⟨la4,ln4,lcap4⟩,⟨ga4,gn4,gcap4⟩,⟨fa4,fn4,fcap4⟩,⟨ra4,rn4,rcap4⟩⟩ vsw { W with floors:=fs }) /\ Hid (fs.length=fn4) /\ Hid (∀ (j:Nat) (x:Int),W.floors[j]?=some x->fs[j]?=some (if j < k then qc1 (qdg W j) x else x))) (fun i _=>fn4 - (intOf i).toNat)
  case atStart=>exact ⟨0,W.floors,Nat.zero_le _,rfl,G4,HW4,fun j x hj=>by simpa using hj⟩
  case round =>
   obtain ⟨k,fs,hk,rfl,G,hy,hf⟩:=hrel
   clear G4
   have b0:∀ w',Keeps wr w'->∀ j,w'.cell? ⟨ob,j,none⟩=(syc ({ W with floors:=fs }:Sy) ⟨⟨ta4,tn4,tcap4⟩,⟨la4,ln4,lcap4⟩,⟨ga4,gn4,gcap4⟩,⟨fa4,fn4,fcap4⟩,⟨ra4,rn4,rcap4⟩⟩)[j]?:=fun w' kk=>(G.out.var.box.keeps kk).cells
   dsimp only [syc] at b0
   have hcpu:W.cpus=(fn4:Int):=by rw [HW1.out,HW5.out]
   by_cases hlt:k < fn4
   ·have hlt':(k:Int) < (fn4:Int):=by omega
    obtain ⟨x,hx⟩:=qal (xs:=W.floors) (k:=k) (by rw [HW4.out];exact hlt)
    have HX:Hid (W.floors[k]?=some x):=hx
    have Hy:Hid (fs[k]?=some x):=by have:=hf.out k x hx;rw [if_neg (by omega)] at this;exact this
    obtain ⟨fb,hfb⟩:=G.out.var.own.floorsAt (k:=k) (by show _ < fs.length;rw [hy.out];exact hlt)
    dsimp only at hfb
    subst hfb
    have fc:=G.out.var.own.floorCell (fb:=fb) rfl (k:=k) (x:=x) Hy.out
    have f0:∀ w',Keeps wr w'->w'.cell? ⟨fb,k,none⟩=some (.int .i64 x):=fun w' kk=>(kk.cells fb _ fc.2.2.1).trans fc.1
    have f1:∀ w',Keeps wr w'->w'.frozen? ⟨fb,k,none⟩=false:=fun w' kk=>(kk.frozens fb _ fc.2.2.1).trans (fc.2.1 k)
    have ON:Hid (SysOn wr ⟨⟨ta4,tn4,tcap4⟩,⟨la4,ln4,lcap4⟩,⟨ga4,gn4,gcap4⟩,⟨some ⟨fb,0,none⟩,fn4,fcap4⟩,⟨ra4,rn4,rcap4⟩⟩ { W with floors:=fs }):=G.out.var.own.on (by have h1:=hy.out;have h2:=HW4.out;unfold qai at hWs ⊢;dsimp only;omega)
    obtain ⟨ff,Hff⟩:∃ z,Hid (qc1 (qdg W k) x=z):=⟨_,rfl⟩
    obtain ⟨aw,Haw⟩:∃ z,Hid (qdg W k=z):=⟨_,rfl⟩
    rw [Haw.out] at Hff
    have CA:Hid (∀ w',Keeps wr w'->Calls Tryz.prog 179 #[.agg #[.int .i64 W.now,.int .i64 (fn4:Int),.slice ta4 tn4 tcap4,.slice la4 ln4 lcap4,.slice ga4 gn4 gcap4,.slice (some ⟨fb,0,none⟩) fn4 fcap4,.int .i64 W.seq,.int .i64 W.missed,.slice ra4 rn4 rcap4],.int .i64 k] w' fun e w''=>∃ u,e = .returned u /\ Own 43 14 tc w'' w'.heap.size u aw /\ Keeps w' w''):=fun w' kk=>by
     have h1:=ql7 (ON.out.keeps kk) (k:Int)
     dsimp only [syc] at h1
     rw [hcpu] at h1
     refine h1.mono ?_
     rintro e w'' ⟨u,rfl,o,k'⟩
     exact ⟨u,rfl,by rw [<- Haw.out];exact o,k'⟩
    simp only [hcpu] at b0
    clear hx fc hcpu
    go_upto_region 24 with fail
    refine qcs 13 (S:=(fun w'=>Keeps wr w')) (by kernel_rfl) ?_ (fun hHeld => ?_)
    ·exact (Keeps.refl wr).drew
    refine Plan.go [0,1,2,3,4,6,7,8,9,10] ?_
    iterate 10 (refine qbp (by simp only [qab];rfl) (by kernel_rfl) (by exact fun _ _ _ h=>h) (by rfl) (by assumption) (fun w _=>by go_simp;try (with_reducible rfl)) ?_;try simp only [qaa])
    refine Plan.nil ?_
    refine qbh (i:=5) (by kernel_rfl) (by simp only [List.getElem?_toArray,List.getElem?_cons_succ,List.getElem?_cons_zero];rfl) (fun K hK => ?_)
    go_simp
    first
     | (go_at_call 179;refine (CA.out _ (Keeps.refl wr).drew).mono ?_;rintro e w5 ⟨u5,rfl,o5,k5⟩;obtain ⟨a5,c5,e5,l5,m5,m5'⟩:=o5.slice qao;subst e5;have L5:Hid (Ts w5 a5 aw):=l5;have M5:Hid (aw.length <= maxLen):=Nat.le_trans m5 m5';clear o5 l5 m5 m5')
     | (go_at_call 178;refine (qf7 a5 c5 aw x _ M5.out L5.out).mono ?_;rintro e w6 ⟨rfl,k6⟩;rw [Hff.out])
    try go_wp2_with fail
    refine hK.out _ _ ?_ (fun hHeld => ?_)
    ·exact Keeps.trans (by assumption) (by assumption)
    clear hK K
    try simp only [qaa]
    refine qbh (i:=11) (by kernel_rfl) (by simp only [List.getElem?_toArray,List.getElem?_cons_succ,List.getElem?_cons_zero];rfl) (fun K hK => ?_)
    go_simp
    first
     | (go_at_call 179;refine (CA.out _ (Keeps.refl wr).drew).mono ?_;rintro e w5 ⟨u5,rfl,o5,k5⟩;obtain ⟨a5,c5,e5,l5,m5,m5'⟩:=o5.slice qao;subst e5;have L5:Hid (Ts w5 a5 aw):=l5;have M5:Hid (aw.length <= maxLen):=Nat.le_trans m5 m5';clear o5 l5 m5 m5')
     | (go_at_call 178;refine (qf7 a5 c5 aw x _ M5.out L5.out).mono ?_;rintro e w6 ⟨rfl,k6⟩;rw [Hff.out])
    try go_wp2_with fail
    refine hK.out _ _ ?_ (fun hHeld => ?_)
    ·exact Keeps.trans (by assumption) (by assumption)
    clear hK K
    try simp only [qaa]
    refine Plan.go [12] ?_
    iterate 1 (refine qbp (by simp only [qab];rfl) (by kernel_rfl) (by exact fun _ _ _ h=>h) (by rfl) (by assumption) (fun w _=>by go_simp;try (with_reducible rfl)) ?_;try simp only [qaa])
    refine Plan.nil ?_
    refine qcr (by kernel_rfl) (by simp only [List.getElem?_toArray,List.getElem?_cons_succ,List.getElem?_cons_zero];rfl) (by kernel_rfl) (fun K hK => ?_)
    have K6:Keeps wr w6:=(by assumption);have z1:=f0 w6 K6;have z2:=f1 w6 K6
    go_simp
    try go_wp2_with fail
    refine hK.out _ _ ?_
    clear hK K
    try simp only [qaa]
    have G9:Hid (VarG w2 w1.heap.size ⟨⟨ta',tn',tcap'⟩,⟨la',ln',lcap'⟩,⟨ga',gn',gcap'⟩,⟨fa',fn',fcap'⟩,⟨ra',rn',rcap'⟩⟩ vso (w6.setCell ⟨fb,k,none⟩ (.int .i64 ff)) ob ⟨⟨ta4,tn4,tcap4⟩,⟨la4,ln4,lcap4⟩,⟨ga4,gn4,gcap4⟩,⟨some ⟨fb,0,none⟩,fn4,fcap4⟩,⟨ra4,rn4,rcap4⟩⟩ vsw { W with floors:=fs.set k ff }):=(G.out.keeps K6).floor (fb:=fb) rfl Hy.out ff
    change Exit.inBlock _ _ _ _ (w6.setCell ⟨fb,k,none⟩ (.int .i64 ff))
    clear z1 z2 K6 b0 f0 f1 hHeld G
    generalize w6.setCell ⟨fb,k,none⟩ (.int .i64 ff)=X9 at *
    go_wp2
    refine ⟨⟨k+1,fs.set k ff,by omega,by go_num,G9,by show _=_;simpa using hy.out,?_⟩,by simp only [intOf];omega⟩
    intro j y hj
    by_cases e:j=k
    ·subst e
     rw [HX.out] at hj
     cases hj
     rw [if_pos (by omega),Haw.out,Hff.out]
     exact List.getElem?_set_self (by rw [hy.out];exact hlt)
    ·have:=hf.out j y hj
     rw [List.getElem?_set_ne (Ne.symm e),this]
     by_cases h3:j < k
     ·rw [if_pos h3,if_pos (by omega)]
     ·rw [if_neg h3,if_neg (by omega)]
   ·have e:k=fn4:=by omega
    subst e
    have HE:Hid (({ W with floors:=fs }:Sy)=qbe W):=by
     show _=_
     have h2:fs=W.floors.mapIdx fun c x=>qc1 (qdg W c) x:=by
      apply List.ext_getElem?
      intro j
      rw [List.getElem?_mapIdx]
      cases e:W.floors[j]? with
      | none =>
       have:W.floors.length <= j:=List.getElem?_eq_none_iff.1 e
       rw [List.getElem?_eq_none (by rw [hy.out,<- HW4.out];exact this)];rfl
      | some x =>
       have h3:=hf.out j x e
       rw [if_pos (by have:=qaw e;have:=HW4.out;omega)] at h3
       exact h3
     unfold qbe
     rw [h2]
    rw [HE.out] at G
    go_wp2
    go_meet
    exact G
 case rest =>
 have G5:Hid (VarG w2 w1.heap.size ⟨⟨ta',tn',tcap'⟩,⟨la',ln',lcap'⟩,⟨ga',gn',gcap'⟩,⟨fa',fn',fcap'⟩,⟨ra',rn',rcap'⟩⟩ vso wc ob ⟨⟨ta4,tn4,tcap4⟩,⟨la4,ln4,lcap4⟩,⟨ga4,gn4,gcap4⟩,⟨fa4,fn4,fcap4⟩,⟨ra4,rn4,rcap4⟩⟩ vsw (qbe W)):=hcut
 clear hcut G4
 have hFs:qai (qbe W) <= 1500:=by rw [qhI];exact hWs
 have HF1:Hid ((qbe W).cpus=s.cpus):=HW1.out
 have HF2:Hid ((qbe W).seq=s.seq):=HW2.out
 have HF3:Hid ((qbe W).now=s.now):=HW3.out
 generalize qbe W=F at *
 obtain ⟨cn,hcn⟩:∃ cn:Nat,s.cpus=(cn:Int):=⟨s.cpus.toNat,by omega⟩
 have HCN:Hid (s.cpus=(cn:Int)):=hcn
 have hcn4:cn <= 4:=by omega
 clear hcn
 go_upto_block 6 with fail
 go_cut [] (fun wx=>∃ v5 vs5,Hid (VarG w2 w1.heap.size ⟨⟨ta',tn',tcap'⟩,⟨la',ln',lcap'⟩,⟨ga',gn',gcap'⟩,⟨fa',fn',fcap'⟩,⟨ra',rn',rcap'⟩⟩ vso wx ob v5 vs5 (qaF F cn)))
 case first =>
  go_wp2
  go_loopw [9] (fun i wr=>∃ (k:Nat) (v5:Sv) (vs5:List Lv),k <= cn /\ i = .int .i64 k /\ Hid (VarG w2 w1.heap.size ⟨⟨ta',tn',tcap'⟩,⟨la',ln',lcap'⟩,⟨ga',gn',gcap'⟩,⟨fa',fn',fcap'⟩,⟨ra',rn',rcap'⟩⟩ vso wr ob v5 vs5 (qaF F k))) (fun i _=>cn - (intOf i).toNat)
  case atStart=>exact ⟨0,⟨⟨ta4,tn4,tcap4⟩,⟨la4,ln4,lcap4⟩,⟨ga4,gn4,gcap4⟩,⟨fa4,fn4,fcap4⟩,⟨ra4,rn4,rcap4⟩⟩,vsw,Nat.zero_le _,rfl,G5⟩
  case round =>
   obtain ⟨k,⟨⟨yA,yB,tcap5⟩,⟨yD,yE,lcap5⟩,⟨yG,yH,gcap5⟩,⟨yJ,yK,fcap5⟩,⟨yM,yN,rcap5⟩⟩,vs5,hk,rfl,G⟩:=hrel
   clear G5
   obtain ⟨t1,t2,t3,t4,t5⟩:=qem F k
   have HT1:(qaF F k).cpus=(cn:Int):=by rw [t1,HF1.out,HCN.out]
   have HSz:Hid (qai (qaF F k) <= 2000000):=by show _ <= _;omega
   have HQ0:Hid (0 <= (qaF F k).seq):=by show _ <= _;have:=HF2.out;omega
   have HQ1:Hid ((qaF F k).seq <= 2000000):=by show _ <= _;have:=HF2.out;omega
   have HTn:Hid (qaF F (k+1)=qa0 (qaF F k) k):=rfl
   clear t1 t2 t3 t4 t5
   generalize hTe:qaF F k=T at *
   have HTe:Hid (qaF F k=T):=hTe
   clear hTe
   obtain ⟨_,o1,o2⟩:=G.out.var.box
   dsimp only [syc] at o1
   have CT:Hid (Calls Tryz.prog 180 #[.agg #[.int .i64 T.now,.int .i64 (cn:Int),.slice yA yB tcap5,.slice yD yE lcap5,.slice yG yH gcap5,.slice yJ yK fcap5,.int .i64 T.seq,.int .i64 T.missed,.slice yM yN rcap5],.int .i64 k] wr fun e w'=>∃ v' vs',e = .returned (.agg (syc (qa0 T k) v')) /\ Goes wr w1.heap.size ⟨⟨yA,yB,tcap5⟩,⟨yD,yE,lcap5⟩,⟨yG,yH,gcap5⟩,⟨yJ,yK,fcap5⟩,⟨yM,yN,rcap5⟩⟩ vs5 w' v' vs' (qa0 T k)):=by
    have h1:=qmq G.out.var.own (by have:=G.out.var.lob;have:=G.out.var.box.lt;omega) HSz.out HQ0.out HQ1.out (k:Int)
    dsimp only [syc] at h1
    rw [HT1] at h1
    exact h1
   simp only [HT1] at o1
   clear HT1
   by_cases hlt:k < cn
   ·have hlt':(k:Int) < (cn:Int):=by omega
    go_wp2_with fail
    refine CT.out.mono ?_
    rintro e w7 ⟨⟨⟨ta6,tn6,tcap6⟩,⟨la6,ln6,lcap6⟩,⟨ga6,gn6,gcap6⟩,⟨fa6,fn6,fcap6⟩,⟨ra6,rn6,rcap6⟩⟩,vs6,rfl,g7⟩
    have G7:Hid (VarG w2 w1.heap.size ⟨⟨ta',tn',tcap'⟩,⟨la',ln',lcap'⟩,⟨ga',gn',gcap'⟩,⟨fa',fn',fcap'⟩,⟨ra',rn',rcap'⟩⟩ vso (putC w7 ob 0 (syc (qa0 T k) ⟨⟨ta6,tn6,tcap6⟩,⟨la6,ln6,lcap6⟩,⟨ga6,gn6,gcap6⟩,⟨fa6,fn6,fcap6⟩,⟨ra6,rn6,rcap6⟩⟩).toList) ob ⟨⟨ta6,tn6,tcap6⟩,⟨la6,ln6,lcap6⟩,⟨ga6,gn6,gcap6⟩,⟨fa6,fn6,fcap6⟩,⟨ra6,rn6,rcap6⟩⟩ vs6 (qa0 T k)):=G.out.put g7
    obtain ⟨_,q1,q2⟩:=g7.blk G.out.var.box G.out.var.far
    dsimp only [syc] at q1
    clear o1 o2 g7
    go_upto_region 27 with fail
    change Code.wp _ _ _ _ (putC w7 ob 0 (syc (qa0 T k) ⟨⟨ta6,tn6,tcap6⟩,⟨la6,ln6,lcap6⟩,⟨ga6,gn6,gcap6⟩,⟨fa6,fn6,fcap6⟩,⟨ra6,rn6,rcap6⟩⟩).toList)
    clear q1 q2
    generalize putC w7 ob 0 (syc (qa0 T k) ⟨⟨ta6,tn6,tcap6⟩,⟨la6,ln6,lcap6⟩,⟨ga6,gn6,gcap6⟩,⟨fa6,fn6,fcap6⟩,⟨ra6,rn6,rcap6⟩⟩).toList=X7 at *
    go_wp2
    exact ⟨⟨k+1,⟨⟨ta6,tn6,tcap6⟩,⟨la6,ln6,lcap6⟩,⟨ga6,gn6,gcap6⟩,⟨fa6,fn6,fcap6⟩,⟨ra6,rn6,rcap6⟩⟩,vs6,by omega,by go_num,by show VarG _ _ _ _ _ _ _ _ _;rw [HTn.out];exact G7.out⟩,by simp only [intOf];omega⟩
   ·have e:k=cn:=by omega
    subst e
    go_wp2
    go_meet
    exact ⟨_,vs5,by show VarG _ _ _ _ _ _ _ _ _;rw [HTe.out];exact G.out⟩
 case rest =>
 obtain ⟨⟨⟨yA,yB,tcap5⟩,⟨yD,yE,lcap5⟩,⟨yG,yH,gcap5⟩,⟨yJ,yK,fcap5⟩,⟨yM,yN,rcap5⟩⟩,vs5,G6⟩:=hcut
 obtain ⟨t1,t2,t3,t4,t5⟩:=qem F cn
 have hnow:(qaF F cn).now=s.now:=by rw [t2,HF3.out]
 have HNow:Hid ((qaF F cn).now=s.now):=hnow
 have hnw:0 <= (qaF F cn).now /\ (qaF F cn).now <= 100000:=by rw [hnow];exact ⟨hn0,hn1⟩
 obtain ⟨hnw0,hnw1⟩:=hnw
 have HTT:Hid (qaz s=qeg (qaF F cn)):=by show _=_;rw [HAT.out,HCN.out];rfl
 clear t1 t2 t3 t4 t5 hnow G5
 generalize qaF F cn=T at *
 obtain ⟨_,o1,o2⟩:=G6.out.var.box
 dsimp only [syc] at o1
 go_upto_region 30 with fail
 have G7:Hid (VarG w2 w1.heap.size ⟨⟨ta',tn',tcap'⟩,⟨la',ln',lcap'⟩,⟨ga',gn',gcap'⟩,⟨fa',fn',fcap'⟩,⟨ra',rn',rcap'⟩⟩ vso (wc.setCell ⟨ob,0,none⟩ (.int .i64 (T.now+1))) ob ⟨⟨yA,yB,tcap5⟩,⟨yD,yE,lcap5⟩,⟨yG,yH,gcap5⟩,⟨yJ,yK,fcap5⟩,⟨yM,yN,rcap5⟩⟩ vs5 { T with now:=T.now+1 }):=G6.out.num (T.now+1) T.cpus T.seq T.missed (k:=0) rfl (by omega)
 clear o1 o2 G6
 generalize wc.setCell ⟨ob,0,none⟩ (.int .i64 (T.now+1))=X7 at *
 have HT:Hid (qaz s={ T with now:=T.now+1 }):=HTT.out
 have KX:Keeps Z X7:=G7.out.keepsZ O2.out k02.out hZ1.out
 obtain ⟨_,o1,o2⟩:=G7.out.var.box
 dsimp only [syc] at o1
 obtain ⟨_,r1,r2⟩:=R0.out.keeps KX
 go_wp2
 have D:=(R0.out.keeps KX).putC (syc ({ T with now:=T.now+1 }:Sy) ⟨⟨yA,yB,tcap5⟩,⟨yD,yE,lcap5⟩,⟨yG,yH,gcap5⟩,⟨yJ,yK,fcap5⟩,⟨yM,yN,rcap5⟩⟩).toList rfl
 have KQ:=Keeps.putC (b:=w.heap.size+1) (by omega) (syc ({ T with now:=T.now+1 }:Sy) ⟨⟨yA,yB,tcap5⟩,⟨yD,yE,lcap5⟩,⟨yG,yH,gcap5⟩,⟨yJ,yK,fcap5⟩,⟨yM,yN,rcap5⟩⟩).toList 0 (kZ.trans KX)
 have SQ:OwnS (putC X7 (w.heap.size+1) 0 (syc ({ T with now:=T.now+1 }:Sy) ⟨⟨yA,yB,tcap5⟩,⟨yD,yE,lcap5⟩,⟨yG,yH,gcap5⟩,⟨yJ,yK,fcap5⟩,⟨yM,yN,rcap5⟩⟩).toList) w.heap.size ⟨⟨yA,yB,tcap5⟩,⟨yD,yE,lcap5⟩,⟨yG,yH,gcap5⟩,⟨yJ,yK,fcap5⟩,⟨yM,yN,rcap5⟩⟩ vs5 ({ T with now:=T.now+1 }):=(OwnS.farC (c:=w.heap.size+1) (fun i hi=>by have:=(G7.out.var.own.blkLt hi).1;have:=hz.out;have:=hZ1.out;omega) _ _ G7.out.var.own).base (by have:=hz.out;have:=hZ1.out;omega)
 change bodyPost _ _ _ _ _ (putC X7 (w.heap.size+1) 0 (syc ({ T with now:=T.now+1 }:Sy) ⟨⟨yA,yB,tcap5⟩,⟨yD,yE,lcap5⟩,⟨yG,yH,gcap5⟩,⟨yJ,yK,fcap5⟩,⟨yM,yN,rcap5⟩⟩).toList)
 generalize putC X7 (w.heap.size+1) 0 (syc ({ T with now:=T.now+1 }:Sy) ⟨⟨yA,yB,tcap5⟩,⟨yD,yE,lcap5⟩,⟨yG,yH,gcap5⟩,⟨yJ,yK,fcap5⟩,⟨yM,yN,rcap5⟩⟩).toList=Q at D KQ SQ ⊢
 exact bodyPost_ret (v := .tuple #[.agg (syc ({ T with now:=T.now+1 }:Sy) ⟨⟨yA,yB,tcap5⟩,⟨yD,yE,lcap5⟩,⟨yG,yH,gcap5⟩,⟨yJ,yK,fcap5⟩,⟨yM,yN,rcap5⟩⟩),.bool true]) (by simp [results,Tryz.results146,go_sem,D.cells]) rfl (by rw [HT.out,HTB.out];first | exact ⟨_,vs5,rfl,SQ,KQ⟩ | exact ⟨_,rfl,⟨_,SQ⟩,KQ⟩)
end Go.Proofs.YteagpjlgjfaclaaGreatDoor
namespace Go.Proofs.YteagpjlgjfaclaaGreatDoor
set_option maxRecDepth 100000
open Go.RowKit
attribute [local go_sem] Keeps.refl Keeps.alloc Keeps.drew Keeps.drewN
def qcA (s:Sy) (n:Int):Sy:=if sysB s then (qaU s n.toNat).1 else Sy.zero
def qcT (s:Sy) (n:Int):Int:=if sysB s then ((qaU s n.toNat).2:Int) else 0
theorem qhJ {s:Sy} (h:qbx s=true):sysB s=true /\ s.now < 100000 /\ 0 <= s.now:=by
 have h0:=h
 unfold qbx at h
 simp only [Bool.and_eq_true,Bool.not_eq_true',beq_eq_false_iff_ne,ne_eq] at h
 have:=(qcP.1 h.1).now
 exact ⟨h.1,by omega,this.1⟩
theorem qhK {s:Sy} (h:qbx s=true):(qaz s).now=s.now+1 /\ qai (qaz s) <= 1600:=by
 have R:=qcP.1 (qhJ h).1
 have e:qaz s=qeg (qaF (qbe (qaR (qaT s))) s.cpus.toNat):=by unfold qaz;rw [h];rfl
 obtain ⟨t1,t2,t3,t4,t5⟩:=qem (qbe (qaR (qaT s))) s.cpus.toNat
 have h1:=qhG s
 have h2:=R.small
 have h3:=R.cpus
 rw [qhI,qhH] at t3
 rw [e]
 refine ⟨?_,?_⟩
 ·show (qaF (qbe (qaR (qaT s))) s.cpus.toNat).now+1=_
  rw [t2];rfl
 ·show qai (qaF (qbe (qaR (qaT s))) s.cpus.toNat) <= _
  omega
set_option maxHeartbeats 4000000 in
theorem qmo {w:World} {v:Sv} {s:Sy} (h:SysOn w v s) (n:Int) :
  Calls Tryz.prog 83 #[.agg (syc s v),.int .i64 n] w fun e w'=>∃ v' vs',e = .returned (.tuple #[.agg (syc (qcA s n) v'),.int .i64 (qcT s n)]) /\ OwnS w' w.heap.size v' vs' (qcA s n) /\ Keeps w w':=by
 obtain ⟨⟨ta,tn,tcap⟩,⟨la,ln,lcap⟩,⟨ga,gn,gcap⟩,⟨fa,fn,fcap⟩,⟨ra,rn,rcap⟩⟩:=v
 have kZ:Keeps w ((w.alloc (.cells (syc s ⟨⟨ta,tn,tcap⟩,⟨la,ln,lcap⟩,⟨ga,gn,gcap⟩,⟨fa,fn,fcap⟩,⟨ra,rn,rcap⟩⟩) 30)).alloc (.cells zc 30)):=((Keeps.refl w).alloc _).alloc _
 have B0:Hid (Blk ((w.alloc (.cells (syc s ⟨⟨ta,tn,tcap⟩,⟨la,ln,lcap⟩,⟨ga,gn,gcap⟩,⟨fa,fn,fcap⟩,⟨ra,rn,rcap⟩⟩) 30)).alloc (.cells zc 30)) w.heap.size (syc s ⟨⟨ta,tn,tcap⟩,⟨la,ln,lcap⟩,⟨ga,gn,gcap⟩,⟨fa,fn,fcap⟩,⟨ra,rn,rcap⟩⟩)):=(Blk.new _ _ _).alloc _
 have R0:Hid (Blk ((w.alloc (.cells (syc s ⟨⟨ta,tn,tcap⟩,⟨la,ln,lcap⟩,⟨ga,gn,gcap⟩,⟨fa,fn,fcap⟩,⟨ra,rn,rcap⟩⟩) 30)).alloc (.cells zc 30)) (w.heap.size+1) zc):=by
  have:=Blk.new (w.alloc (.cells (syc s ⟨⟨ta,tn,tcap⟩,⟨la,ln,lcap⟩,⟨ga,gn,gcap⟩,⟨fa,fn,fcap⟩,⟨ra,rn,rcap⟩⟩) 30)) zc 30
  show Blk _ _ _
  simpa using this
 have hz:Hid (((w.alloc (.cells (syc s ⟨⟨ta,tn,tcap⟩,⟨la,ln,lcap⟩,⟨ga,gn,gcap⟩,⟨fa,fn,fcap⟩,⟨ra,rn,rcap⟩⟩) 30)).alloc (.cells zc 30)).heap.size=w.heap.size+2):=by show _=_;simp
 have HS:Hid (SysOn ((w.alloc (.cells (syc s ⟨⟨ta,tn,tcap⟩,⟨la,ln,lcap⟩,⟨ga,gn,gcap⟩,⟨fa,fn,fcap⟩,⟨ra,rn,rcap⟩⟩) 30)).alloc (.cells zc 30)) ⟨⟨ta,tn,tcap⟩,⟨la,ln,lcap⟩,⟨ga,gn,gcap⟩,⟨fa,fn,fcap⟩,⟨ra,rn,rcap⟩⟩ s):=h.keeps kZ
 clear h
 go_enter Tryz.func83,Tryz.ntmps83
 go_wp2_with fail
 change Calls _ _ _ ((w.alloc (.cells (syc s ⟨⟨ta,tn,tcap⟩,⟨la,ln,lcap⟩,⟨ga,gn,gcap⟩,⟨fa,fn,fcap⟩,⟨ra,rn,rcap⟩⟩) 30)).alloc (.cells zc 30)) _
 generalize (w.alloc (.cells (syc s ⟨⟨ta,tn,tcap⟩,⟨la,ln,lcap⟩,⟨ga,gn,gcap⟩,⟨fa,fn,fcap⟩,⟨ra,rn,rcap⟩⟩) 30)).alloc (.cells zc 30)=Z at *
 refine (qeM HS.out).mono ?_
 rintro e w1 ⟨rfl,k1⟩
 have hb0:∀ w',Keeps Z w'->∀ j,w'.cell? ⟨w.heap.size,j,none⟩=(syc s ⟨⟨ta,tn,tcap⟩,⟨la,ln,lcap⟩,⟨ga,gn,gcap⟩,⟨fa,fn,fcap⟩,⟨ra,rn,rcap⟩⟩)[j]?:=fun w' k=>(B0.out.keeps k).cells
 dsimp only [syc] at hb0
 cases hb:sysB s
 ·have HTB:Hid (qcT s n=0):=by show _=_;unfold qcT;rw [hb];rfl
  have HT:Hid (qcA s n=Sy.zero):=by show _=_;unfold qcA;rw [hb];rfl
  obtain ⟨_,r1,r2⟩:=R0.out.keeps k1
  go_wp2
  have D:=(R0.out.keeps k1).putC zc.toList rfl
  have KQ:=Keeps.putC (b:=w.heap.size+1) (by omega) zc.toList 0 (kZ.trans k1)
  change bodyPost _ _ _ _ _ (putC w1 (w.heap.size+1) 0 zc.toList)
  generalize putC w1 (w.heap.size+1) 0 zc.toList=Q at D KQ ⊢
  exact bodyPost_ret (v := .tuple #[.agg zc,.int .i64 0]) (by simp [results,Tryz.results83,go_sem,D.cells]) rfl (by rw [HT.out,HTB.out];first | exact ⟨Sv.zero,[],rfl,OwnS.nothing _ _,KQ⟩ | exact ⟨Sv.zero,rfl,⟨[],OwnS.nothing _ _⟩,KQ⟩)
 have R:=qcP.1 hb
 have hsm:qai s <= 1500:=R.small
 obtain ⟨hn0,hn1⟩:=R.now
 have HT0:Hid (qcA s n=(qaU s n.toNat).1):=by show _=_;unfold qcA;rw [hb];rfl
 have HN0:Hid (qcT s n=((qaU s n.toNat).2:Int)):=by show _=_;unfold qcT;rw [hb];rfl
 clear R
 go_wp2_with fail
 refine (qdS (HS.out.keeps k1)).mono ?_
 rintro e w2 ⟨vo,vso,rfl,o2,k2⟩
 obtain ⟨⟨ta',tn',tcap'⟩,⟨la',ln',lcap'⟩,⟨ga',gn',gcap'⟩,⟨fa',fn',fcap'⟩,⟨ra',rn',rcap'⟩⟩:=vo
 have O2:Hid (OwnS w2 w1.heap.size ⟨⟨ta',tn',tcap'⟩,⟨la',ln',lcap'⟩,⟨ga',gn',gcap'⟩,⟨fa',fn',fcap'⟩,⟨ra',rn',rcap'⟩⟩ vso s):=o2
 have k02:Hid (Keeps Z w2):=k1.trans k2
 have hZ1:Hid (Z.heap.size <= w1.heap.size):=k1.size
 have g0:=VarG.start o2 k2.size
 clear o2
 go_wp2
 change Code.wp _ _ _ _ (w2.alloc (.cells (syc s ⟨⟨ta',tn',tcap'⟩,⟨la',ln',lcap'⟩,⟨ga',gn',gcap'⟩,⟨fa',fn',fcap'⟩,⟨ra',rn',rcap'⟩⟩) 30))
 generalize w2.alloc (.cells (syc s ⟨⟨ta',tn',tcap'⟩,⟨la',ln',lcap'⟩,⟨ga',gn',gcap'⟩,⟨fa',fn',fcap'⟩,⟨ra',rn',rcap'⟩⟩) 30)=X0 at *
 generalize w2.heap.size=ob at *
 have G0:Hid (VarG w2 w1.heap.size ⟨⟨ta',tn',tcap'⟩,⟨la',ln',lcap'⟩,⟨ga',gn',gcap'⟩,⟨fa',fn',fcap'⟩,⟨ra',rn',rcap'⟩⟩ vso X0 ob ⟨⟨ta',tn',tcap'⟩,⟨la',ln',lcap'⟩,⟨ga',gn',gcap'⟩,⟨fa',fn',fcap'⟩,⟨ra',rn',rcap'⟩⟩ vso s):=g0
 clear g0 k1 k2
 go_loopw [7] (fun i wr=>∃ (k:Nat) (v5:Sv) (vs5:List Lv) (T:Sy),i = .int .i64 k /\ k <= n.toNat /\ T.now=s.now+k /\ T.now <= 100000 /\ qai T <= 1600 /\ Hid (VarG w2 w1.heap.size ⟨⟨ta',tn',tcap'⟩,⟨la',ln',lcap'⟩,⟨ga',gn',gcap'⟩,⟨fa',fn',fcap'⟩,⟨ra',rn',rcap'⟩⟩ vso wr ob v5 vs5 T) /\ Hid ((qaU s n.toNat)=((qaU T (n.toNat - k)).1,(qaU T (n.toNat - k)).2+k))) (fun i _=>200000 - (intOf i).toNat)
 case atStart=>exact ⟨0,_,vso,s,rfl,Nat.zero_le _,by simp,hn1,by omega,G0,by show _=_;simp⟩
 case round =>
  obtain ⟨k,⟨⟨yA,yB,tcap5⟩,⟨yD,yE,lcap5⟩,⟨yG,yH,gcap5⟩,⟨yJ,yK,fcap5⟩,⟨yM,yN,rcap5⟩⟩,vs5,T,rfl,hk,hTn,hTm,hTs,G,HI⟩:=hrel
  clear G0
  have hTn':Hid (T.now=s.now+k):=hTn
  have hk1:k <= 100000:=by omega
  by_cases hlt:(k:Int) < n
  ·obtain ⟨m,Hm⟩:∃ m,Hid (n.toNat - k=m+1):=⟨n.toNat - k - 1,by show _=_;omega⟩
   obtain ⟨_,o1,o2⟩:=G.out.var.box
   dsimp only [syc] at o1
   obtain ⟨tb,HTb⟩:∃ b,Hid (qbx T=b):=⟨_,rfl⟩
   have CT:Hid (Calls Tryz.prog 146 #[.agg (syc T ⟨⟨yA,yB,tcap5⟩,⟨yD,yE,lcap5⟩,⟨yG,yH,gcap5⟩,⟨yJ,yK,fcap5⟩,⟨yM,yN,rcap5⟩⟩)] wr fun e w'=>∃ v' vs',e = .returned (.tuple #[.agg (syc (qaz T) v'),.bool tb]) /\ OwnS w' wr.heap.size v' vs' (qaz T) /\ Keeps wr w'):=by
    have h1:=qmk (G.out.var.own.on (by omega))
    rw [HTb.out] at h1
    exact h1
   dsimp only [syc] at CT
   clear hTn
   go_wp2_with fail
   refine CT.out.mono ?_
   rintro e w7 ⟨⟨⟨ta6,tn6,tcap6⟩,⟨la6,ln6,lcap6⟩,⟨ga6,gn6,gcap6⟩,⟨fa6,fn6,fcap6⟩,⟨ra6,rn6,rcap6⟩⟩,vs6,rfl,O7,k7⟩
   have KN:Keeps wr (w7.alloc (.cells (syc (qaz T) ⟨⟨ta6,tn6,tcap6⟩,⟨la6,ln6,lcap6⟩,⟨ga6,gn6,gcap6⟩,⟨fa6,fn6,fcap6⟩,⟨ra6,rn6,rcap6⟩⟩) 30)):=k7.alloc _
   have NB:Hid (Blk (w7.alloc (.cells (syc (qaz T) ⟨⟨ta6,tn6,tcap6⟩,⟨la6,ln6,lcap6⟩,⟨ga6,gn6,gcap6⟩,⟨fa6,fn6,fcap6⟩,⟨ra6,rn6,rcap6⟩⟩) 30)) w7.heap.size (syc (qaz T) ⟨⟨ta6,tn6,tcap6⟩,⟨la6,ln6,lcap6⟩,⟨ga6,gn6,gcap6⟩,⟨fa6,fn6,fcap6⟩,⟨ra6,rn6,rcap6⟩⟩)):=Blk.new _ _ _
   have GN:Hid (Goes wr w1.heap.size ⟨⟨yA,yB,tcap5⟩,⟨yD,yE,lcap5⟩,⟨yG,yH,gcap5⟩,⟨yJ,yK,fcap5⟩,⟨yM,yN,rcap5⟩⟩ vs5 (w7.alloc (.cells (syc (qaz T) ⟨⟨ta6,tn6,tcap6⟩,⟨la6,ln6,lcap6⟩,⟨ga6,gn6,gcap6⟩,⟨fa6,fn6,fcap6⟩,⟨ra6,rn6,rcap6⟩⟩) 30)) ⟨⟨ta6,tn6,tcap6⟩,⟨la6,ln6,lcap6⟩,⟨ga6,gn6,gcap6⟩,⟨fa6,fn6,fcap6⟩,⟨ra6,rn6,rcap6⟩⟩ vs6 (qaz T)):=(Goes.fresh O7 k7 (by have:=G.out.var.lob;have:=G.out.var.box.lt;omega)).behind ((Keeps.refl _).alloc _)
   clear o1 o2 O7 k7 CT
   go_upto_region 7 with fail
   change Code.wp _ _ _ _ (w7.alloc (.cells (syc (qaz T) ⟨⟨ta6,tn6,tcap6⟩,⟨la6,ln6,lcap6⟩,⟨ga6,gn6,gcap6⟩,⟨fa6,fn6,fcap6⟩,⟨ra6,rn6,rcap6⟩⟩) 30))
   generalize w7.alloc (.cells (syc (qaz T) ⟨⟨ta6,tn6,tcap6⟩,⟨la6,ln6,lcap6⟩,⟨ga6,gn6,gcap6⟩,⟨fa6,fn6,fcap6⟩,⟨ra6,rn6,rcap6⟩⟩) 30)=X at *
   generalize w7.heap.size=nb at *
   cases tb
   ·have E1:qaU T (n.toNat - k)=(T,0):=by rw [Hm.out];simp [qaU,HTb.out]
    have HT:Hid (qcA s n=T):=by show _=_;rw [HT0.out,HI.out,E1]
    have HN:Hid (qcT s n=(k:Int)):=by show _=_;rw [HN0.out,HI.out,E1];simp
    have GX:Hid (VarG w2 w1.heap.size ⟨⟨ta',tn',tcap'⟩,⟨la',ln',lcap'⟩,⟨ga',gn',gcap'⟩,⟨fa',fn',fcap'⟩,⟨ra',rn',rcap'⟩⟩ vso X ob ⟨⟨yA,yB,tcap5⟩,⟨yD,yE,lcap5⟩,⟨yG,yH,gcap5⟩,⟨yJ,yK,fcap5⟩,⟨yM,yN,rcap5⟩⟩ vs5 T):=G.out.keeps KN
    clear E1 G GN NB KN
    have KX:Keeps Z X:=GX.out.keepsZ O2.out k02.out hZ1.out
    obtain ⟨_,o1,o2⟩:=GX.out.var.box
    dsimp only [syc] at o1
    obtain ⟨_,r1,r2⟩:=R0.out.keeps KX
    go_wp2
    have D:=(R0.out.keeps KX).putC (syc (T:Sy) ⟨⟨yA,yB,tcap5⟩,⟨yD,yE,lcap5⟩,⟨yG,yH,gcap5⟩,⟨yJ,yK,fcap5⟩,⟨yM,yN,rcap5⟩⟩).toList rfl
    have KQ:=Keeps.putC (b:=w.heap.size+1) (by omega) (syc (T:Sy) ⟨⟨yA,yB,tcap5⟩,⟨yD,yE,lcap5⟩,⟨yG,yH,gcap5⟩,⟨yJ,yK,fcap5⟩,⟨yM,yN,rcap5⟩⟩).toList 0 (kZ.trans KX)
    have SQ:OwnS (putC X (w.heap.size+1) 0 (syc (T:Sy) ⟨⟨yA,yB,tcap5⟩,⟨yD,yE,lcap5⟩,⟨yG,yH,gcap5⟩,⟨yJ,yK,fcap5⟩,⟨yM,yN,rcap5⟩⟩).toList) w.heap.size ⟨⟨yA,yB,tcap5⟩,⟨yD,yE,lcap5⟩,⟨yG,yH,gcap5⟩,⟨yJ,yK,fcap5⟩,⟨yM,yN,rcap5⟩⟩ vs5 (T):=(OwnS.farC (c:=w.heap.size+1) (fun i hi=>by have:=(GX.out.var.own.blkLt hi).1;have:=hz.out;have:=hZ1.out;omega) _ _ GX.out.var.own).base (by have:=hz.out;have:=hZ1.out;omega)
    change bodyPost _ _ _ _ _ (putC X (w.heap.size+1) 0 (syc (T:Sy) ⟨⟨yA,yB,tcap5⟩,⟨yD,yE,lcap5⟩,⟨yG,yH,gcap5⟩,⟨yJ,yK,fcap5⟩,⟨yM,yN,rcap5⟩⟩).toList)
    generalize putC X (w.heap.size+1) 0 (syc (T:Sy) ⟨⟨yA,yB,tcap5⟩,⟨yD,yE,lcap5⟩,⟨yG,yH,gcap5⟩,⟨yJ,yK,fcap5⟩,⟨yM,yN,rcap5⟩⟩).toList=Q at D KQ SQ ⊢
    exact bodyPost_ret (v := .tuple #[.agg (syc (T:Sy) ⟨⟨yA,yB,tcap5⟩,⟨yD,yE,lcap5⟩,⟨yG,yH,gcap5⟩,⟨yJ,yK,fcap5⟩,⟨yM,yN,rcap5⟩⟩),.int .i64 k]) (by simp [results,Tryz.results83,go_sem,D.cells]) rfl (by rw [HT.out,HN.out];first | exact ⟨_,vs5,rfl,SQ,KQ⟩ | exact ⟨_,rfl,⟨_,SQ⟩,KQ⟩)
   ·have hf:=qhK HTb.out
    have hn2:=(qhJ HTb.out).2
    have HI2:Hid (qaU s n.toNat=((qaU (qaz T) (n.toNat - (k+1))).1,(qaU (qaz T) (n.toNat - (k+1))).2+(k+1))):=by
     show _=_
     rw [HI.out,Hm.out,show n.toNat - (k+1)=m from by have:=Hm.out;omega]
     simp only [qaU,HTb.out,if_true]
     congr 1
     omega
    have G9:Hid (VarG w2 w1.heap.size ⟨⟨ta',tn',tcap'⟩,⟨la',ln',lcap'⟩,⟨ga',gn',gcap'⟩,⟨fa',fn',fcap'⟩,⟨ra',rn',rcap'⟩⟩ vso (putC X ob 0 (syc (qaz T) ⟨⟨ta6,tn6,tcap6⟩,⟨la6,ln6,lcap6⟩,⟨ga6,gn6,gcap6⟩,⟨fa6,fn6,fcap6⟩,⟨ra6,rn6,rcap6⟩⟩).toList) ob ⟨⟨ta6,tn6,tcap6⟩,⟨la6,ln6,lcap6⟩,⟨ga6,gn6,gcap6⟩,⟨fa6,fn6,fcap6⟩,⟨ra6,rn6,rcap6⟩⟩ vs6 (qaz T)):=G.out.put GN.out
    have hT1:(qaz T).now=s.now+((k+1:Nat):Int):=by have:=hTn'.out;omega
    have hT2:(qaz T).now <= 100000:=by omega
    have hT3:qai (qaz T) <= 1600:=hf.2
    have HTs:Hid ((qaz T).now=s.now+((k+1:Nat):Int) /\ (qaz T).now <= 100000 /\ qai (qaz T) <= 1600):=⟨hT1,hT2,hT3⟩
    obtain ⟨_,q1,q2⟩:=NB.out
    dsimp only [syc] at q1
    obtain ⟨_,p1,p2⟩:=G.out.var.box.keeps KN
    dsimp only [syc] at p1
    clear hf hn2 hT1 hT2 hT3
    go_upto_region 10 with fail
    change Code.wp _ _ _ _ (putC X ob 0 (syc (qaz T) ⟨⟨ta6,tn6,tcap6⟩,⟨la6,ln6,lcap6⟩,⟨ga6,gn6,gcap6⟩,⟨fa6,fn6,fcap6⟩,⟨ra6,rn6,rcap6⟩⟩).toList)
    clear q1 q2 p1 p2 NB GN G KN
    generalize putC X ob 0 (syc (qaz T) ⟨⟨ta6,tn6,tcap6⟩,⟨la6,ln6,lcap6⟩,⟨ga6,gn6,gcap6⟩,⟨fa6,fn6,fcap6⟩,⟨ra6,rn6,rcap6⟩⟩).toList=X9 at *
    go_wp2
    exact ⟨⟨k+1,_,vs6,qaz T,by go_num,by omega,HTs.out.1,HTs.out.2.1,HTs.out.2.2,G9,HI2⟩,by simp only [intOf];omega⟩
  ·have E0:n.toNat - k=0:=by omega
   have E1:qaU T (n.toNat - k)=(T,0):=by rw [E0];rfl
   have HT:Hid (qcA s n=T):=by show _=_;rw [HT0.out,HI.out,E1]
   have HN:Hid (qcT s n=(k:Int)):=by show _=_;rw [HN0.out,HI.out,E1];simp
   clear E0 E1 hTn
   have KX:Keeps Z wr:=G.out.keepsZ O2.out k02.out hZ1.out
   obtain ⟨_,o1,o2⟩:=G.out.var.box
   dsimp only [syc] at o1
   obtain ⟨_,r1,r2⟩:=R0.out.keeps KX
   go_wp2
   have D:=(R0.out.keeps KX).putC (syc (T:Sy) ⟨⟨yA,yB,tcap5⟩,⟨yD,yE,lcap5⟩,⟨yG,yH,gcap5⟩,⟨yJ,yK,fcap5⟩,⟨yM,yN,rcap5⟩⟩).toList rfl
   have KQ:=Keeps.putC (b:=w.heap.size+1) (by omega) (syc (T:Sy) ⟨⟨yA,yB,tcap5⟩,⟨yD,yE,lcap5⟩,⟨yG,yH,gcap5⟩,⟨yJ,yK,fcap5⟩,⟨yM,yN,rcap5⟩⟩).toList 0 (kZ.trans KX)
   have SQ:OwnS (putC wr (w.heap.size+1) 0 (syc (T:Sy) ⟨⟨yA,yB,tcap5⟩,⟨yD,yE,lcap5⟩,⟨yG,yH,gcap5⟩,⟨yJ,yK,fcap5⟩,⟨yM,yN,rcap5⟩⟩).toList) w.heap.size ⟨⟨yA,yB,tcap5⟩,⟨yD,yE,lcap5⟩,⟨yG,yH,gcap5⟩,⟨yJ,yK,fcap5⟩,⟨yM,yN,rcap5⟩⟩ vs5 (T):=(OwnS.farC (c:=w.heap.size+1) (fun i hi=>by have:=(G.out.var.own.blkLt hi).1;have:=hz.out;have:=hZ1.out;omega) _ _ G.out.var.own).base (by have:=hz.out;have:=hZ1.out;omega)
   change bodyPost _ _ _ _ _ (putC wr (w.heap.size+1) 0 (syc (T:Sy) ⟨⟨yA,yB,tcap5⟩,⟨yD,yE,lcap5⟩,⟨yG,yH,gcap5⟩,⟨yJ,yK,fcap5⟩,⟨yM,yN,rcap5⟩⟩).toList)
   generalize putC wr (w.heap.size+1) 0 (syc (T:Sy) ⟨⟨yA,yB,tcap5⟩,⟨yD,yE,lcap5⟩,⟨yG,yH,gcap5⟩,⟨yJ,yK,fcap5⟩,⟨yM,yN,rcap5⟩⟩).toList=Q at D KQ SQ ⊢
   exact bodyPost_ret (v := .tuple #[.agg (syc (T:Sy) ⟨⟨yA,yB,tcap5⟩,⟨yD,yE,lcap5⟩,⟨yG,yH,gcap5⟩,⟨yJ,yK,fcap5⟩,⟨yM,yN,rcap5⟩⟩),.int .i64 k]) (by simp [results,Tryz.results83,go_sem,D.cells]) rfl (by rw [HT.out,HN.out];first | exact ⟨_,vs5,rfl,SQ,KQ⟩ | exact ⟨_,rfl,⟨_,SQ⟩,KQ⟩)
end Go.Proofs.YteagpjlgjfaclaaGreatDoor
