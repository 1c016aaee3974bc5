/-
  Calls: the model's l11Do and SysCall.
-/
import Derived.Test.YteagpjlgjfaclaaGreatDoorSysTicks
import Derived.Test.YteagpjlgjfaclaaGreatDoorCallExit
import Derived.Test.YteagpjlgjfaclaaGreatDoorFairHeap
import Derived.Test.YteagpjlgjfaclaaGreatDoorSysLocks
import Derived.Test.YteagpjlgjfaclaaGreatDoorSysCopy
import Derived.Deep.Cut
namespace Go.Proofs.YteagpjlgjfaclaaGreatDoor
set_option maxRecDepth 100000
open Go.RowKit
attribute [local go_sem] aa.refl aa.alloc aa.drew aa.drewN
theorem Gv {w:World} {lo:Nat} {v:Sv} {vs:List Lv} {s:Sy} (h:ay w lo v vs s) (hl:lo <= w.heap.size) (R:cV s) (c:Cl) (hc:aF c.kind 1 11=true):Calls Tryz.prog 39 #[.agg (ae s v),ck c] w (fL w lo v vs (df s c) (ei s c)):=by
 obtain ⟨h1,h2⟩:=dq.1 hc
 by_cases h3:c.kind <= 3
 ·exact Gw h hl R c h3
 obtain ⟨kd,cn,cp,ca,cb⟩:=c
 dsimp only at h1 h2 h3
 by_cases h11:kd=11
 ·subst h11;exact Gx h hl R cn cp ca cb
 cases hth:bF s.tasks cn
 ·exact Gy h hl R _ (by simpa using h3) (by simpa using h11) hth
 have:kd=4∨kd=5∨kd=6∨kd=7∨kd=8∨kd=9∨kd=10:=by omega
 rcases this with rfl | rfl | rfl | rfl | rfl | rfl | rfl
 ·exact FB h hl R cn cp ca cb hth
 ·exact FC h hl R cn cp ca cb hth
 ·exact FE h hl R cn cp ca cb hth
 ·exact FF h hl R cn cp ca cb hth
 ·exact FH h hl R cn cp ca cb hth
 ·exact FD h hl R cn cp ca cb hth
 ·exact FJ h hl R cn cp ca cb hth
def Told (w:World) (s':Sy) (n:Int) (e:Ending) (w':World):Prop:=∃ v' vs',e = .returned (.tuple #[.agg (ae s' v'),.int .i64 n]) /\ ay w' w.heap.size v' vs' s' /\ aa w w'
theorem Told.of {w w':World} {s s':Sy} {n m:Int} {v':Sv} {vs':List Lv} (hn:n=m) (hs:s=s') (O:ay w' w.heap.size v' vs' s') (K:aa w w'):Told w s n (.returned (.tuple #[.agg (ae s' v'),.int .i64 m])) w':=by
 subst hn hs
 exact ⟨v',vs',rfl,O,K⟩
set_option linter.unusedSimpArgs false in
set_option maxHeartbeats 20000000 in
theorem yW {w:World} {v:Sv} {s:Sy} (h:aA w v s) (c:Cl) :
  Calls Tryz.prog 12 #[.agg (ae s v),ck c] w (Told w (eQ s c) (fK s c)):=by
 obtain ⟨⟨ta,tn,ak⟩,⟨la,ln,aj⟩,⟨ga,gn,ao⟩,⟨fa,fn,aq⟩,⟨ra,rn,au⟩⟩:=v
 have kZ:aa w (du w ⟨⟨ta,tn,ak⟩,⟨la,ln,aj⟩,⟨ga,gn,ao⟩,⟨fa,fn,aq⟩,⟨ra,rn,au⟩⟩ s c):=(((aa.refl w).alloc _).alloc _).alloc _
 have B0:Hid (ai (du w ⟨⟨ta,tn,ak⟩,⟨la,ln,aj⟩,⟨ga,gn,ao⟩,⟨fa,fn,aq⟩,⟨ra,rn,au⟩⟩ s c) w.heap.size (ae s ⟨⟨ta,tn,ak⟩,⟨la,ln,aj⟩,⟨ga,gn,ao⟩,⟨fa,fn,aq⟩,⟨ra,rn,au⟩⟩)):=((ai.new _ _ _).alloc _).alloc _
 have C0:Hid (ai (du w ⟨⟨ta,tn,ak⟩,⟨la,ln,aj⟩,⟨ga,gn,ao⟩,⟨fa,fn,aq⟩,⟨ra,rn,au⟩⟩ s c) (w.heap.size+1) (cc c)):=by
  have:=(ai.new (w.alloc (.cells (ae s ⟨⟨ta,tn,ak⟩,⟨la,ln,aj⟩,⟨ga,gn,ao⟩,⟨fa,fn,aq⟩,⟨ra,rn,au⟩⟩) 30)) (cc c) 32).alloc (.cells zc 30)
  show ai _ _ _
  simpa using this
 have R0:Hid (ai (du w ⟨⟨ta,tn,ak⟩,⟨la,ln,aj⟩,⟨ga,gn,ao⟩,⟨fa,fn,aq⟩,⟨ra,rn,au⟩⟩ s c) (w.heap.size+2) zc):=by
  have:=ai.new ((w.alloc (.cells (ae s ⟨⟨ta,tn,ak⟩,⟨la,ln,aj⟩,⟨ga,gn,ao⟩,⟨fa,fn,aq⟩,⟨ra,rn,au⟩⟩) 30)).alloc (.cells (cc c) 32)) zc 30
  show ai _ _ _
  simpa using this
 have hz:Hid ((du w ⟨⟨ta,tn,ak⟩,⟨la,ln,aj⟩,⟨ga,gn,ao⟩,⟨fa,fn,aq⟩,⟨ra,rn,au⟩⟩ s c).heap.size=w.heap.size+3):=by show _=_;simp
 have HS:Hid (aA (du w ⟨⟨ta,tn,ak⟩,⟨la,ln,aj⟩,⟨ga,gn,ao⟩,⟨fa,fn,aq⟩,⟨ra,rn,au⟩⟩ s c) ⟨⟨ta,tn,ak⟩,⟨la,ln,aj⟩,⟨ga,gn,ao⟩,⟨fa,fn,aq⟩,⟨ra,rn,au⟩⟩ s):=h.keeps kZ
 clear h
 go_enter Tryz.func12,Tryz.ntmps12
 go_wp2_with fail
 change Calls _ _ _ (du w ⟨⟨ta,tn,ak⟩,⟨la,ln,aj⟩,⟨ga,gn,ao⟩,⟨fa,fn,aq⟩,⟨ra,rn,au⟩⟩ s c) _
 generalize du w ⟨⟨ta,tn,ak⟩,⟨la,ln,aj⟩,⟨ga,gn,ao⟩,⟨fa,fn,aq⟩,⟨ra,rn,au⟩⟩ s c=Z at *
 have hb0:∀ w',aa Z w'->∀ q,w'.cell? ⟨w.heap.size,q,none⟩=(ae s ⟨⟨ta,tn,ak⟩,⟨la,ln,aj⟩,⟨ga,gn,ao⟩,⟨fa,fn,aq⟩,⟨ra,rn,au⟩⟩)[q]?:=fun w' k=>(B0.out.keeps k).cells
 dsimp only [ae] at hb0
 have hc0:∀ w',aa Z w'->∀ q,w'.cell? ⟨w.heap.size+1,q,none⟩=(cc c)[q]?:=fun w' k=>(C0.out.keeps k).cells
 refine (tj HS.out).mono ?_
 rintro e w1 ⟨rfl,k1⟩
 cases hb:bf s
 ·have HN:Hid (fK s c=1):=by show _=_;unfold fK;rw [hb];rfl
  have HC:Hid (eQ s c=Sy.zero):=by show _=_;unfold eQ;rw [hb];rfl
  obtain ⟨_,r1,r2⟩:=R0.out.keeps k1
  go_wp2
  have D:=(R0.out.keeps k1).putC zc.toList rfl
  have KQ:=aa.putC (b:=w.heap.size+2) (by omega) zc.toList 0 (kZ.trans k1)
  change bodyPost _ _ _ _ _ (putC w1 (w.heap.size+2) 0 zc.toList)
  generalize putC w1 (w.heap.size+2) 0 zc.toList=Q at D KQ ⊢
  exact bodyPost_ret (v := .tuple #[.agg zc,.int .i64 1]) (by simp [results,Tryz.results12,go_sem,D.cells]) rfl (Told.of (v':=Sv.zero) (vs':=[]) HN.out HC.out (ay.nothing _ _) KQ)
 have R:=kp.1 hb
 have HR:Hid (cV s):=R
 clear R
 obtain ⟨cbv,pJ⟩:∃ z,Hid (ey c=z):=⟨_,rfl⟩
 have CO:Hid (∀ w',Calls Tryz.prog 38 #[ck c] w' fun e w''=>e = .returned (.bool cbv) /\ aa w' w''):=fun w'=>by
  have:=Gz c w'
  rw [pJ.out] at this
  exact this
 cases cbv
 ·have HN:Hid (fK s c=1):=by show _=_;unfold fK;rw [hb,pJ.out];rfl
  have HC:Hid (eQ s c=Sy.zero):=by show _=_;unfold eQ;rw [hb,pJ.out];rfl
  go_wp2_with (go_at_call 38;refine (CO.out _).mono ?_;rintro e w2 ⟨rfl,k2⟩;obtain ⟨_,r1,r2⟩:=R0.out.keeps (k1.trans k2))
  have D:=(R0.out.keeps (k1.trans k2)).putC zc.toList rfl
  have KQ:=aa.putC (b:=w.heap.size+2) (by omega) zc.toList 0 (kZ.trans (k1.trans k2))
  change bodyPost _ _ _ _ _ (putC w2 (w.heap.size+2) 0 zc.toList)
  generalize putC w2 (w.heap.size+2) 0 zc.toList=Q at D KQ ⊢
  exact bodyPost_ret (v := .tuple #[.agg zc,.int .i64 1]) (by simp [results,Tryz.results12,go_sem,D.cells]) rfl (Told.of (v':=Sv.zero) (vs':=[]) HN.out HC.out (ay.nothing _ _) KQ)
 go_upto_region 3 with (go_at_call 38;refine (CO.out _).mono ?_;rintro e w2 ⟨rfl,k2⟩)
 have K2:aa Z w2:=k1.trans k2
 have GA:Hid (aF c.kind 1 11=true):=by
  have:=pJ.out
  unfold ey at this
  simp only [Bool.and_eq_true] at this
  exact this.1
 obtain ⟨dn,vd⟩:∃ z,Hid (df s c=z):=⟨_,rfl⟩
 have HN:Hid (fK s c=dn):=by show _=_;unfold fK;rw [hb,pJ.out,vd.out];rfl
 have HC:Hid (eQ s c=if dn==0 then ei s c else s):=by show _=_;unfold eQ;rw [hb,pJ.out,vd.out];rfl
 have S2:Hid (aA w2 ⟨⟨ta,tn,ak⟩,⟨la,ln,aj⟩,⟨ga,gn,ao⟩,⟨fa,fn,aq⟩,⟨ra,rn,au⟩⟩ s):=HS.out.keeps K2
 have zv:aa w w2:=kZ.trans K2
 have hz2:Hid (w.heap.size+3 <= w2.heap.size):=by show _ <= _;rw [<- hz.out];exact K2.size
 have B2:Hid (ai w2 w.heap.size (ae s ⟨⟨ta,tn,ak⟩,⟨la,ln,aj⟩,⟨ga,gn,ao⟩,⟨fa,fn,aq⟩,⟨ra,rn,au⟩⟩)):=B0.out.keeps K2
 have C2:Hid (ai w2 (w.heap.size+1) (cc c)):=C0.out.keeps K2
 have R2:Hid (ai w2 (w.heap.size+2) zc):=R0.out.keeps K2
 clear hb0 hc0 CO B0 C0 R0 HS kZ hz k1 k2 K2
 have hb2:∀ w',aa w2 w'->∀ q,w'.cell? ⟨w.heap.size,q,none⟩=(ae s ⟨⟨ta,tn,ak⟩,⟨la,ln,aj⟩,⟨ga,gn,ao⟩,⟨fa,fn,aq⟩,⟨ra,rn,au⟩⟩)[q]?:=fun w' k=>(B2.out.keeps k).cells
 dsimp only [ae] at hb2
 have hc2:∀ w',aa w2 w'->∀ q,w'.cell? ⟨w.heap.size+1,q,none⟩=(cc c)[q]?:=fun w' k=>(C2.out.keeps k).cells
 have DO:Hid (∀ (w':World) (lo:Nat) (v:Sv) (vs:List Lv),ay w' lo v vs s->lo <= w'.heap.size->Calls Tryz.prog 39 #[.agg (ae s v),ck c] w' (fL w' lo v vs dn (ei s c))):=fun w' lo v vs o hl=>by
  have:=Gv o hl HR.out c GA.out
  rw [vd.out] at this
  exact this
 go_cut [6,7] (fun p b wx=>∃ nb s' v' vs',p = .pointer (some ⟨nb,0,none⟩) /\ b = .int .i64 dn /\ Hid (ai wx nb (ae s' v')) /\ Hid (ay wx w2.heap.size v' vs' s') /\ Hid (dn=0->s'=ei s c) /\ aa w2 wx)
 case first =>
  refine wp_region_held_drew (S:=fun w'=>aa w2 w') (by kernel_rfl) ?_ (fun hHeld => ?_)
  ·exact (aa.refl w2).drew
  refine ad.go [0,2] ?_
  iterate 2 (refine aJ (h := ?_);try simp only [ar])
  refine ad.nil ?_
  refine wpAnyH_ready (rs:=[1,7]) (by kernel_rfl) (by simp) ?_
  refine AllReadyH.cons (by simp only [List.getElem?_toArray,List.getElem?_cons_succ,List.getElem?_cons_zero];rfl) (fun K hK => ?_) (AllReadyH.cons (by simp only [List.getElem?_toArray,List.getElem?_cons_succ,List.getElem?_cons_zero];rfl) (fun K hK => ?_) AllReadyH.nil)
  ·go_simp
   (go_at_call 40;refine (pK (S2.out.keeps (by assumption))).mono ?_;rintro e w3 ⟨v3,vs3,rfl,o3,k3⟩;obtain ⟨⟨xA,xB,xC⟩,⟨xD,xE,xF⟩,⟨xG,xH,xI⟩,⟨xJ,xK,xL⟩,⟨xM,xN,xO⟩⟩:=v3;have K3:aa w2 w3:=aa.trans (by assumption) k3)
   try go_wp2_with fail
   refine hK.out _ _ ?_ fun hHeld => ?_
   ·first | assumption | exact aa.alloc (by assumption) _ | exact aa.trans (by assumption) (by assumption)
   clear hK K
   try simp only [ar]
   refine wpAnyH_ready (rs:=[3,7]) (by kernel_rfl) (by simp) ?_
   refine AllReadyH.cons (by simp only [List.getElem?_toArray,List.getElem?_cons_succ,List.getElem?_cons_zero];rfl) (fun K hK => ?_) (AllReadyH.cons (by simp only [List.getElem?_toArray,List.getElem?_cons_succ,List.getElem?_cons_zero];rfl) (fun K hK => ?_) AllReadyH.nil)
   ·go_simp
    (go_at_call 39;refine (DO.out _ _ _ _ o3 (by have:=k3.size;simp at this ⊢;omega)).mono ?_;rintro e w4 ⟨s6,v6,fh,rfl,hs6,g6⟩;obtain ⟨⟨bM,bN,cq⟩,⟨bG,bE,cr⟩,⟨bO,bP,ct⟩,⟨fa6,bQ,cw⟩,⟨bR,bS,cx⟩⟩:=v6;have K4:aa w2 w4:=g6.keeps o3 (by first | assumption | exact K3.alloc _) (by simp))
    try go_wp2_with fail
    refine hK.out _ _ ?_ fun hHeld => ?_
    ·first | assumption | exact aa.alloc (by assumption) _ | exact aa.trans (by assumption) (by assumption)
    clear hK K
    try simp only [ar]
    refine ad.go [4,5,6] ?_
    iterate 3 (refine aJ (h := ?_);try simp only [ar])
    refine ad.nil ?_
    refine aO 7 (h:=fun K hK => ?_)
    go_simp
    try go_wp2_with fail
    refine hK.out _ _ ?_ fun hHeld => ?_
    ·first | assumption | exact aa.alloc (by assumption) _ | exact aa.trans (by assumption) (by assumption)
    clear hK K
    try simp only [ar]
    refine aO 8 (h:=fun K hK => ?_)
    go_simp
    try go_wp2_with fail
    refine hK.out _ (w4.alloc (.cells (ae (s6:Sy) ⟨⟨bM,bN,cq⟩,⟨bG,bE,cr⟩,⟨bO,bP,ct⟩,⟨fa6,bQ,cw⟩,⟨bR,bS,cx⟩⟩) 30)) ?_ (fun hHeld => ?_)
    ·exact K4.alloc _
    clear hK K
    try simp only [ar]
    have hBN:Hid (ai (w4.alloc (.cells (ae (s6:Sy) ⟨⟨bM,bN,cq⟩,⟨bG,bE,cr⟩,⟨bO,bP,ct⟩,⟨fa6,bQ,cw⟩,⟨bR,bS,cx⟩⟩) 30)) w4.heap.size (ae (s6:Sy) ⟨⟨bM,bN,cq⟩,⟨bG,bE,cr⟩,⟨bO,bP,ct⟩,⟨fa6,bQ,cw⟩,⟨bR,bS,cx⟩⟩)):=ai.new _ _ _
    have qU:Hid (ay (w4.alloc (.cells (ae (s6:Sy) ⟨⟨bM,bN,cq⟩,⟨bG,bE,cr⟩,⟨bO,bP,ct⟩,⟨fa6,bQ,cw⟩,⟨bR,bS,cx⟩⟩) 30)) w2.heap.size ⟨⟨bM,bN,cq⟩,⟨bG,bE,cr⟩,⟨bO,bP,ct⟩,⟨fa6,bQ,cw⟩,⟨bR,bS,cx⟩⟩ fh s6):=(g6.own.base (by simp)).keeps ((aa.refl _).alloc _)
    generalize w4.alloc (.cells (ae (s6:Sy) ⟨⟨bM,bN,cq⟩,⟨bG,bE,cr⟩,⟨bO,bP,ct⟩,⟨fa6,bQ,cw⟩,⟨bR,bS,cx⟩⟩) 30)=XW at *
    refine cU 9 (h := ?_)
    try simp only [ar]
    refine wpAnyH_done (by kernel_rfl) ?_ _
    go_wp2_with fail
    go_meet
    exact ⟨w4.heap.size,s6,⟨⟨bM,bN,cq⟩,⟨bG,bE,cr⟩,⟨bO,bP,ct⟩,⟨fa6,bQ,cw⟩,⟨bR,bS,cx⟩⟩,fh,rfl,rfl,hBN,qU,hs6,by assumption⟩
   ·go_simp
    try go_wp2_with fail
    refine hK.out _ _ ?_ fun hHeld => ?_
    ·first | assumption | exact aa.alloc (by assumption) _ | exact aa.trans (by assumption) (by assumption)
    clear hK K
    try simp only [ar]
    have zw:=o3.keeps ((aa.refl w3).alloc (.cells zc 30))
    refine aO 3 (h:=fun K hK => ?_)
    go_simp
    (go_at_call 39;refine (DO.out _ _ _ _ zw (by have:=k3.size;simp at this ⊢;omega)).mono ?_;rintro e w4 ⟨s6,v6,fh,rfl,hs6,g6⟩;obtain ⟨⟨bM,bN,cq⟩,⟨bG,bE,cr⟩,⟨bO,bP,ct⟩,⟨fa6,bQ,cw⟩,⟨bR,bS,cx⟩⟩:=v6;have K4:aa w2 w4:=g6.keeps zw (by first | assumption | exact K3.alloc _) (by simp))
    try go_wp2_with fail
    refine hK.out _ _ ?_ fun hHeld => ?_
    ·first | assumption | exact aa.alloc (by assumption) _ | exact aa.trans (by assumption) (by assumption)
    clear hK K
    try simp only [ar]
    refine ad.go [4,5,6] ?_
    iterate 3 (refine aJ (h := ?_);try simp only [ar])
    refine ad.nil ?_
    have ia:ai w4 (w3.heap.size) zc:=g6.blk (ai.new _ _ _) (fun i hi=>by have:=(o3.aG hi).2;omega)
    have ib:Hid (ai w4 (w3.heap.size) zc):=ia
    obtain ⟨_,jh,ji⟩:=ia
    have hnb:w2.heap.size <= w3.heap.size:=by first | exact Nat.le_refl _ | exact K3.size
    have FN:∀ i,¬ bp ⟨⟨bM,bN,cq⟩,⟨bG,bE,cr⟩,⟨bO,bP,ct⟩,⟨fa6,bQ,cw⟩,⟨bR,bS,cx⟩⟩ fh i (w3.heap.size):=g6.far (ai.lt (ai.new _ _ _)) (fun i hi=>by have:=(o3.aG hi).2;omega)
    refine aO 8 (h:=fun K hK => ?_)
    go_simp
    try go_wp2_with fail
    refine hK.out _ (putC w4 (w3.heap.size) 0 (ae (s6:Sy) ⟨⟨bM,bN,cq⟩,⟨bG,bE,cr⟩,⟨bO,bP,ct⟩,⟨fa6,bQ,cw⟩,⟨bR,bS,cx⟩⟩).toList) ?_ (fun hHeld => ?_)
    ·exact aa.putC (b:=w3.heap.size) hnb (ae (s6:Sy) ⟨⟨bM,bN,cq⟩,⟨bG,bE,cr⟩,⟨bO,bP,ct⟩,⟨fa6,bQ,cw⟩,⟨bR,bS,cx⟩⟩).toList 0 K4
    clear hK K
    try simp only [ar]
    have hBN:Hid (ai (putC w4 (w3.heap.size) 0 (ae (s6:Sy) ⟨⟨bM,bN,cq⟩,⟨bG,bE,cr⟩,⟨bO,bP,ct⟩,⟨fa6,bQ,cw⟩,⟨bR,bS,cx⟩⟩).toList) (w3.heap.size) (ae (s6:Sy) ⟨⟨bM,bN,cq⟩,⟨bG,bE,cr⟩,⟨bO,bP,ct⟩,⟨fa6,bQ,cw⟩,⟨bR,bS,cx⟩⟩)):=ib.out.putC (ae (s6:Sy) ⟨⟨bM,bN,cq⟩,⟨bG,bE,cr⟩,⟨bO,bP,ct⟩,⟨fa6,bQ,cw⟩,⟨bR,bS,cx⟩⟩).toList rfl
    have qU:Hid (ay (putC w4 (w3.heap.size) 0 (ae (s6:Sy) ⟨⟨bM,bN,cq⟩,⟨bG,bE,cr⟩,⟨bO,bP,ct⟩,⟨fa6,bQ,cw⟩,⟨bR,bS,cx⟩⟩).toList) w2.heap.size ⟨⟨bM,bN,cq⟩,⟨bG,bE,cr⟩,⟨bO,bP,ct⟩,⟨fa6,bQ,cw⟩,⟨bR,bS,cx⟩⟩ fh s6):=ay.aU FN _ _ (g6.own.base (by first | exact Nat.le_refl _ | simp))
    clear jh ji ib FN
    generalize putC w4 (w3.heap.size) 0 (ae (s6:Sy) ⟨⟨bM,bN,cq⟩,⟨bG,bE,cr⟩,⟨bO,bP,ct⟩,⟨fa6,bQ,cw⟩,⟨bR,bS,cx⟩⟩).toList=XW at *
    refine cU 9 (h := ?_)
    try simp only [ar]
    refine wpAnyH_done (by kernel_rfl) ?_ _
    go_wp2_with fail
    go_meet
    exact ⟨w3.heap.size,s6,⟨⟨bM,bN,cq⟩,⟨bG,bE,cr⟩,⟨bO,bP,ct⟩,⟨fa6,bQ,cw⟩,⟨bR,bS,cx⟩⟩,fh,rfl,rfl,hBN,qU,hs6,by assumption⟩
  ·go_simp
   try go_wp2_with fail
   refine hK.out _ _ ?_ fun hHeld => ?_
   ·first | assumption | exact aa.alloc (by assumption) _ | exact aa.trans (by assumption) (by assumption)
   clear hK K
   try simp only [ar]
   refine aO 1 (h:=fun K hK => ?_)
   go_simp
   (go_at_call 40;refine (pK (S2.out.keeps (by assumption))).mono ?_;rintro e w3 ⟨v3,vs3,rfl,o3,k3⟩;obtain ⟨⟨xA,xB,xC⟩,⟨xD,xE,xF⟩,⟨xG,xH,xI⟩,⟨xJ,xK,xL⟩,⟨xM,xN,xO⟩⟩:=v3;have K3:aa w2 w3:=aa.trans (by assumption) k3)
   try go_wp2_with fail
   refine hK.out _ _ ?_ fun hHeld => ?_
   ·first | assumption | exact aa.alloc (by assumption) _ | exact aa.trans (by assumption) (by assumption)
   clear hK K
   try simp only [ar]
   refine aO 3 (h:=fun K hK => ?_)
   go_simp
   (go_at_call 39;refine (DO.out _ _ _ _ o3 (by have:=k3.size;simp at this ⊢;omega)).mono ?_;rintro e w4 ⟨s6,v6,fh,rfl,hs6,g6⟩;obtain ⟨⟨bM,bN,cq⟩,⟨bG,bE,cr⟩,⟨bO,bP,ct⟩,⟨fa6,bQ,cw⟩,⟨bR,bS,cx⟩⟩:=v6;have K4:aa w2 w4:=g6.keeps o3 (by first | assumption | exact K3.alloc _) (by simp))
   try go_wp2_with fail
   refine hK.out _ _ ?_ fun hHeld => ?_
   ·first | assumption | exact aa.alloc (by assumption) _ | exact aa.trans (by assumption) (by assumption)
   clear hK K
   try simp only [ar]
   refine ad.go [4,5,6] ?_
   iterate 3 (refine aJ (h := ?_);try simp only [ar])
   refine ad.nil ?_
   have ia:ai w4 (w2.heap.size) zc:=g6.blk (((ai.new _ _ _).keeps (aa.refl _).drew).keeps k3) (fun i hi=>by have:=(o3.aG hi).1;simp at this;omega)
   have ib:Hid (ai w4 (w2.heap.size) zc):=ia
   obtain ⟨_,jh,ji⟩:=ia
   have hnb:w2.heap.size <= w2.heap.size:=by first | exact Nat.le_refl _ | exact K3.size
   have FN:∀ i,¬ bp ⟨⟨bM,bN,cq⟩,⟨bG,bE,cr⟩,⟨bO,bP,ct⟩,⟨fa6,bQ,cw⟩,⟨bR,bS,cx⟩⟩ fh i (w2.heap.size):=g6.far (ai.lt (((ai.new _ _ _).keeps (aa.refl _).drew).keeps k3)) (fun i hi=>by have:=(o3.aG hi).1;simp at this;omega)
   refine aO 8 (h:=fun K hK => ?_)
   go_simp
   try go_wp2_with fail
   refine hK.out _ (putC w4 (w2.heap.size) 0 (ae (s6:Sy) ⟨⟨bM,bN,cq⟩,⟨bG,bE,cr⟩,⟨bO,bP,ct⟩,⟨fa6,bQ,cw⟩,⟨bR,bS,cx⟩⟩).toList) ?_ (fun hHeld => ?_)
   ·exact aa.putC (b:=w2.heap.size) hnb (ae (s6:Sy) ⟨⟨bM,bN,cq⟩,⟨bG,bE,cr⟩,⟨bO,bP,ct⟩,⟨fa6,bQ,cw⟩,⟨bR,bS,cx⟩⟩).toList 0 K4
   clear hK K
   try simp only [ar]
   have hBN:Hid (ai (putC w4 (w2.heap.size) 0 (ae (s6:Sy) ⟨⟨bM,bN,cq⟩,⟨bG,bE,cr⟩,⟨bO,bP,ct⟩,⟨fa6,bQ,cw⟩,⟨bR,bS,cx⟩⟩).toList) (w2.heap.size) (ae (s6:Sy) ⟨⟨bM,bN,cq⟩,⟨bG,bE,cr⟩,⟨bO,bP,ct⟩,⟨fa6,bQ,cw⟩,⟨bR,bS,cx⟩⟩)):=ib.out.putC (ae (s6:Sy) ⟨⟨bM,bN,cq⟩,⟨bG,bE,cr⟩,⟨bO,bP,ct⟩,⟨fa6,bQ,cw⟩,⟨bR,bS,cx⟩⟩).toList rfl
   have qU:Hid (ay (putC w4 (w2.heap.size) 0 (ae (s6:Sy) ⟨⟨bM,bN,cq⟩,⟨bG,bE,cr⟩,⟨bO,bP,ct⟩,⟨fa6,bQ,cw⟩,⟨bR,bS,cx⟩⟩).toList) w2.heap.size ⟨⟨bM,bN,cq⟩,⟨bG,bE,cr⟩,⟨bO,bP,ct⟩,⟨fa6,bQ,cw⟩,⟨bR,bS,cx⟩⟩ fh s6):=ay.aU FN _ _ (g6.own.base (by first | exact Nat.le_refl _ | simp))
   clear jh ji ib FN
   generalize putC w4 (w2.heap.size) 0 (ae (s6:Sy) ⟨⟨bM,bN,cq⟩,⟨bG,bE,cr⟩,⟨bO,bP,ct⟩,⟨fa6,bQ,cw⟩,⟨bR,bS,cx⟩⟩).toList=XW at *
   refine cU 9 (h := ?_)
   try simp only [ar]
   refine wpAnyH_done (by kernel_rfl) ?_ _
   go_wp2_with fail
   go_meet
   exact ⟨w2.heap.size,s6,⟨⟨bM,bN,cq⟩,⟨bG,bE,cr⟩,⟨bO,bP,ct⟩,⟨fa6,bQ,cw⟩,⟨bR,bS,cx⟩⟩,fh,rfl,rfl,hBN,qU,hs6,by assumption⟩
 case rest =>
 obtain ⟨nb,s',v',vs',rfl,rfl,BN,ON,zx,kx⟩:=hcut
 generalize wc=wx at *
 clear DO
 obtain ⟨⟨zA,zB,zC⟩,⟨zD,zE,zF⟩,⟨zG,zH,zI⟩,⟨zJ,zK,zL⟩,⟨zM,zN,zO⟩⟩:=v'
 have hx2:Hid (w2.heap.size <= wx.heap.size):=kx.size
 cases d0:(dn==0)
 ·have d0':(dn != 0)=true:=by simp [bne,d0]
  have ve:Hid (eQ s c=s):=by show _=_;rw [HC.out,d0];rfl
  have HD0:Hid ((dn==0)=false):=d0
  clear d0 BN ON zx
  go_wp2_with (go_at_call 40;refine (pK (S2.out.keeps kx)).mono ?_;rintro e w8 ⟨v8,pz,rfl,o8,k8⟩;obtain ⟨⟨nW,nX,nY⟩,⟨nZ,od,oe⟩,⟨og,oh,om⟩,⟨oo,oq,ov⟩,⟨oy,oz,oA⟩⟩:=v8;obtain ⟨_,r1,r2⟩:=R2.out.keeps (kx.trans k8))
  have D:=(R2.out.keeps (kx.trans k8)).putC (ae (s:Sy) ⟨⟨nW,nX,nY⟩,⟨nZ,od,oe⟩,⟨og,oh,om⟩,⟨oo,oq,ov⟩,⟨oy,oz,oA⟩⟩).toList rfl
  have KQ:=aa.putC (b:=w.heap.size+2) (by omega) (ae (s:Sy) ⟨⟨nW,nX,nY⟩,⟨nZ,od,oe⟩,⟨og,oh,om⟩,⟨oo,oq,ov⟩,⟨oy,oz,oA⟩⟩).toList 0 (zv.trans (kx.trans k8))
  have SQ:ay (putC w8 (w.heap.size+2) 0 (ae (s:Sy) ⟨⟨nW,nX,nY⟩,⟨nZ,od,oe⟩,⟨og,oh,om⟩,⟨oo,oq,ov⟩,⟨oy,oz,oA⟩⟩).toList) w.heap.size ⟨⟨nW,nX,nY⟩,⟨nZ,od,oe⟩,⟨og,oh,om⟩,⟨oo,oq,ov⟩,⟨oy,oz,oA⟩⟩ pz s:=(ay.aU (c:=w.heap.size+2) (fun i hi=>by have:=(o8.aG hi).1;have:=hz2.out;have:=hx2.out;omega) _ _ o8).base (by have:=hz2.out;have:=hx2.out;omega)
  change bodyPost _ _ _ _ _ (putC w8 (w.heap.size+2) 0 (ae (s:Sy) ⟨⟨nW,nX,nY⟩,⟨nZ,od,oe⟩,⟨og,oh,om⟩,⟨oo,oq,ov⟩,⟨oy,oz,oA⟩⟩).toList)
  generalize putC w8 (w.heap.size+2) 0 (ae (s:Sy) ⟨⟨nW,nX,nY⟩,⟨nZ,od,oe⟩,⟨og,oh,om⟩,⟨oo,oq,ov⟩,⟨oy,oz,oA⟩⟩).toList=Q at D KQ SQ ⊢
  exact bodyPost_ret (v := .tuple #[.agg (ae (s:Sy) ⟨⟨nW,nX,nY⟩,⟨nZ,od,oe⟩,⟨og,oh,om⟩,⟨oo,oq,ov⟩,⟨oy,oz,oA⟩⟩),.int .i64 dn]) (by simp [results,Tryz.results12,go_sem,D.cells]) rfl (Told.of HN.out ve.out SQ KQ)
 ·have d0':(dn != 0)=false:=by simp [bne,d0]
  have ve:Hid (eQ s c=s'):=by show _=_;rw [HC.out,d0,zx.out (by simpa using d0)];rfl
  obtain ⟨_,b1,b2⟩:=BN.out
  dsimp only [ae] at b1
  obtain ⟨_,r1,r2⟩:=R2.out.keeps kx
  clear d0
  go_wp2
  have D:=(R2.out.keeps kx).putC (ae (s':Sy) ⟨⟨zA,zB,zC⟩,⟨zD,zE,zF⟩,⟨zG,zH,zI⟩,⟨zJ,zK,zL⟩,⟨zM,zN,zO⟩⟩).toList rfl
  have KQ:=aa.putC (b:=w.heap.size+2) (by omega) (ae (s':Sy) ⟨⟨zA,zB,zC⟩,⟨zD,zE,zF⟩,⟨zG,zH,zI⟩,⟨zJ,zK,zL⟩,⟨zM,zN,zO⟩⟩).toList 0 (zv.trans kx)
  have SQ:ay (putC wx (w.heap.size+2) 0 (ae (s':Sy) ⟨⟨zA,zB,zC⟩,⟨zD,zE,zF⟩,⟨zG,zH,zI⟩,⟨zJ,zK,zL⟩,⟨zM,zN,zO⟩⟩).toList) w.heap.size ⟨⟨zA,zB,zC⟩,⟨zD,zE,zF⟩,⟨zG,zH,zI⟩,⟨zJ,zK,zL⟩,⟨zM,zN,zO⟩⟩ vs' s':=(ay.aU (c:=w.heap.size+2) (fun i hi=>by have:=(ON.out.aG hi).1;have:=hz2.out;omega) _ _ ON.out).base (by have:=hz2.out;omega)
  change bodyPost _ _ _ _ _ (putC wx (w.heap.size+2) 0 (ae (s':Sy) ⟨⟨zA,zB,zC⟩,⟨zD,zE,zF⟩,⟨zG,zH,zI⟩,⟨zJ,zK,zL⟩,⟨zM,zN,zO⟩⟩).toList)
  generalize putC wx (w.heap.size+2) 0 (ae (s':Sy) ⟨⟨zA,zB,zC⟩,⟨zD,zE,zF⟩,⟨zG,zH,zI⟩,⟨zJ,zK,zL⟩,⟨zM,zN,zO⟩⟩).toList=Q at D KQ SQ ⊢
  exact bodyPost_ret (v := .tuple #[.agg (ae (s':Sy) ⟨⟨zA,zB,zC⟩,⟨zD,zE,zF⟩,⟨zG,zH,zI⟩,⟨zJ,zK,zL⟩,⟨zM,zN,zO⟩⟩),.int .i64 dn]) (by simp [results,Tryz.results12,go_sem,D.cells]) rfl (Told.of HN.out ve.out SQ KQ)
end Go.Proofs.YteagpjlgjfaclaaGreatDoor
