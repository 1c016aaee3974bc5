/-
  Calls: the model's l11Do and SysCall.
-/
import Derived.Test.YteagpjlgjfaclaaGreatDoorCallDo1
import Derived.Test.YteagpjlgjfaclaaGreatDoorCallDo2
import Derived.Test.YteagpjlgjfaclaaGreatDoorCallDo3
import Derived.Test.YteagpjlgjfaclaaGreatDoorCallLaws
import Derived.Test.YteagpjlgjfaclaaGreatDoorSysLocks
import Derived.Test.YteagpjlgjfaclaaGreatDoorSysCopy
import Derived.Deep.Cut
namespace Go.Proofs.YteagpjlgjfaclaaGreatDoor
set_option maxRecDepth 100000
open Go.RowKit
attribute [local go_sem] aa.refl aa.alloc aa.drew aa.drewN
theorem CL {w:World} {lo:Nat} {v:Sv} {vs:List Lv} {s:Sy} (h:ay w lo v vs s) (hl:lo <= w.heap.size) (R:cx s) (c:Cl) (hc:aH c.kind 1 11=true):Calls Tryz.prog 39 #[.agg (ae s v),ck c] w (eQ w lo v vs (dv s c) (ee s c)):=by
 obtain ⟨h1,h2⟩:=dq.1 hc
 by_cases h3:c.kind <= 3
 ·exact Bb h hl R c h3
 obtain ⟨kd,cn,cp,ca,cb⟩:=c
 dsimp only at h1 h2 h3
 by_cases h11:kd=11
 ·subst h11;exact Bf h hl R cn cp ca cb
 cases hth:ct s.tasks cn
 ·exact Bd h hl R _ (by simpa using h3) (by simpa using h11) hth
 have:kd=4∨kd=5∨kd=6∨kd=7∨kd=8∨kd=9∨kd=10:=by omega
 rcases this with rfl | rfl | rfl | rfl | rfl | rfl | rfl
 ·exact Bh h hl R cn cp ca cb hth
 ·exact Bi h hl R cn cp ca cb hth
 ·exact Bk h hl R cn cp ca cb hth
 ·exact Bm h hl R cn cp ca cb hth
 ·exact Bo h hl R cn cp ca cb hth
 ·exact Bj h hl R cn cp ca cb hth
 ·exact Bq h hl R cn cp ca cb hth
def Told (w:World) (s':Sy) (n:Int) (e:Ending) (w':World):Prop:=∃ v' vs',e = .returned (.tuple #[.agg (ae s' v'),.int .i64 n]) /\ ay w' w.heap.size v' vs' s' /\ aa w w'
theorem Told.of {w w':World} {s s':Sy} {n m:Int} {v':Sv} {vs':List Lv} (hn:n=m) (hs:s=s') (O:ay w' w.heap.size v' vs' s') (K:aa w w'):Told w s n (.returned (.tuple #[.agg (ae s' v'),.int .i64 m])) w':=by
 subst hn hs
 exact ⟨v',vs',rfl,O,K⟩
set_option linter.unusedSimpArgs false in
set_option maxHeartbeats 20000000 in
theorem BL {w:World} {v:Sv} {s:Sy} (h:aA w v s) (c:Cl) :
  Calls Tryz.prog 12 #[.agg (ae s v),ck c] w (Told w (fW s c) (gH s c)):=by
 obtain ⟨⟨ta,tn,ag⟩,⟨la,ln,ah⟩,⟨ga,gn,ai⟩,⟨fa,fn,aj⟩,⟨ra,rn,ao⟩⟩:=v
 have kZ:aa w (cO w ⟨⟨ta,tn,ag⟩,⟨la,ln,ah⟩,⟨ga,gn,ai⟩,⟨fa,fn,aj⟩,⟨ra,rn,ao⟩⟩ s c):=(((aa.refl w).alloc _).alloc _).alloc _
 have B0:Hid (aq (cO w ⟨⟨ta,tn,ag⟩,⟨la,ln,ah⟩,⟨ga,gn,ai⟩,⟨fa,fn,aj⟩,⟨ra,rn,ao⟩⟩ s c) w.heap.size (ae s ⟨⟨ta,tn,ag⟩,⟨la,ln,ah⟩,⟨ga,gn,ai⟩,⟨fa,fn,aj⟩,⟨ra,rn,ao⟩⟩)):=((aq.new _ _ _).alloc _).alloc _
 have C0:Hid (aq (cO w ⟨⟨ta,tn,ag⟩,⟨la,ln,ah⟩,⟨ga,gn,ai⟩,⟨fa,fn,aj⟩,⟨ra,rn,ao⟩⟩ s c) (w.heap.size+1) (cc c)):=by
  have:=(aq.new (w.alloc (.cells (ae s ⟨⟨ta,tn,ag⟩,⟨la,ln,ah⟩,⟨ga,gn,ai⟩,⟨fa,fn,aj⟩,⟨ra,rn,ao⟩⟩) 30)) (cc c) 32).alloc (.cells zc 30)
  show aq _ _ _
  simpa using this
 have R0:Hid (aq (cO w ⟨⟨ta,tn,ag⟩,⟨la,ln,ah⟩,⟨ga,gn,ai⟩,⟨fa,fn,aj⟩,⟨ra,rn,ao⟩⟩ s c) (w.heap.size+2) zc):=by
  have:=aq.new ((w.alloc (.cells (ae s ⟨⟨ta,tn,ag⟩,⟨la,ln,ah⟩,⟨ga,gn,ai⟩,⟨fa,fn,aj⟩,⟨ra,rn,ao⟩⟩) 30)).alloc (.cells (cc c) 32)) zc 30
  show aq _ _ _
  simpa using this
 have hz:Hid ((cO w ⟨⟨ta,tn,ag⟩,⟨la,ln,ah⟩,⟨ga,gn,ai⟩,⟨fa,fn,aj⟩,⟨ra,rn,ao⟩⟩ s c).heap.size=w.heap.size+3):=by show _=_;simp
 have HS:Hid (aA (cO w ⟨⟨ta,tn,ag⟩,⟨la,ln,ah⟩,⟨ga,gn,ai⟩,⟨fa,fn,aj⟩,⟨ra,rn,ao⟩⟩ s c) ⟨⟨ta,tn,ag⟩,⟨la,ln,ah⟩,⟨ga,gn,ai⟩,⟨fa,fn,aj⟩,⟨ra,rn,ao⟩⟩ s):=h.keeps kZ
 clear h
 go_enter Tryz.func12,Tryz.ntmps12
 go_wp2_with fail
 change Calls _ _ _ (cO w ⟨⟨ta,tn,ag⟩,⟨la,ln,ah⟩,⟨ga,gn,ai⟩,⟨fa,fn,aj⟩,⟨ra,rn,ao⟩⟩ s c) _
 generalize cO w ⟨⟨ta,tn,ag⟩,⟨la,ln,ah⟩,⟨ga,gn,ai⟩,⟨fa,fn,aj⟩,⟨ra,rn,ao⟩⟩ s c=Z at *
 have hb0:∀ w',aa Z w'->∀ q,w'.cell? ⟨w.heap.size,q,none⟩=(ae s ⟨⟨ta,tn,ag⟩,⟨la,ln,ah⟩,⟨ga,gn,ai⟩,⟨fa,fn,aj⟩,⟨ra,rn,ao⟩⟩)[q]?:=fun w' k=>(B0.out.keeps k).cells
 dsimp only [ae] at hb0
 have hc0:∀ w',aa Z w'->∀ q,w'.cell? ⟨w.heap.size+1,q,none⟩=(cc c)[q]?:=fun w' k=>(C0.out.keeps k).cells
 refine (qV HS.out).mono ?_
 rintro e w1 ⟨rfl,k1⟩
 cases hb:aY s
 ·have HN:Hid (gH s c=1):=by show _=_;unfold gH;rw [hb];rfl
  have HC:Hid (fW s c=Sy.zero):=by show _=_;unfold fW;rw [hb];rfl
  obtain ⟨_,r1,r2⟩:=R0.out.keeps k1
  go_wp2
  have D:=(R0.out.keeps k1).putC zc.toList rfl
  have KQ:=aa.putC (b:=w.heap.size+2) (by omega) zc.toList 0 (kZ.trans k1)
  change bodyPost _ _ _ _ _ (putC w1 (w.heap.size+2) 0 zc.toList)
  generalize putC w1 (w.heap.size+2) 0 zc.toList=Q at D KQ ⊢
  exact bodyPost_ret (v := .tuple #[.agg zc,.int .i64 1]) (by simp [results,Tryz.results12,go_sem,D.cells]) rfl (Told.of (v':=Sv.zero) (vs':=[]) HN.out HC.out (ay.nothing _ _) KQ)
 have R:=kQ.1 hb
 have HR:Hid (cx s):=R
 clear R
 obtain ⟨cbv,nY⟩:∃ z,Hid (ef c=z):=⟨_,rfl⟩
 have CO:Hid (∀ w',Calls Tryz.prog 38 #[ck c] w' fun e w''=>e = .returned (.bool cbv) /\ aa w' w''):=fun w'=>by
  have:=Cg c w'
  rw [nY.out] at this
  exact this
 cases cbv
 ·have HN:Hid (gH s c=1):=by show _=_;unfold gH;rw [hb,nY.out];rfl
  have HC:Hid (fW s c=Sy.zero):=by show _=_;unfold fW;rw [hb,nY.out];rfl
  go_wp2_with (go_at_call 38;refine (CO.out _).mono ?_;rintro e w2 ⟨rfl,k2⟩;obtain ⟨_,r1,r2⟩:=R0.out.keeps (k1.trans k2))
  have D:=(R0.out.keeps (k1.trans k2)).putC zc.toList rfl
  have KQ:=aa.putC (b:=w.heap.size+2) (by omega) zc.toList 0 (kZ.trans (k1.trans k2))
  change bodyPost _ _ _ _ _ (putC w2 (w.heap.size+2) 0 zc.toList)
  generalize putC w2 (w.heap.size+2) 0 zc.toList=Q at D KQ ⊢
  exact bodyPost_ret (v := .tuple #[.agg zc,.int .i64 1]) (by simp [results,Tryz.results12,go_sem,D.cells]) rfl (Told.of (v':=Sv.zero) (vs':=[]) HN.out HC.out (ay.nothing _ _) KQ)
 go_upto_region 3 with (go_at_call 38;refine (CO.out _).mono ?_;rintro e w2 ⟨rfl,k2⟩)
 have K2:aa Z w2:=k1.trans k2
 have CM:Hid (aH c.kind 1 11=true):=by
  have:=nY.out
  unfold ef at this
  simp only [Bool.and_eq_true] at this
  exact this.1
 obtain ⟨dn,sX⟩:∃ z,Hid (dv s c=z):=⟨_,rfl⟩
 have HN:Hid (gH s c=dn):=by show _=_;unfold gH;rw [hb,nY.out,sX.out];rfl
 have HC:Hid (fW s c=if dn==0 then ee s c else s):=by show _=_;unfold fW;rw [hb,nY.out,sX.out];rfl
 have S2:Hid (aA w2 ⟨⟨ta,tn,ag⟩,⟨la,ln,ah⟩,⟨ga,gn,ai⟩,⟨fa,fn,aj⟩,⟨ra,rn,ao⟩⟩ s):=HS.out.keeps K2
 have wg:aa w w2:=kZ.trans K2
 have hz2:Hid (w.heap.size+3 <= w2.heap.size):=by show _ <= _;rw [<- hz.out];exact K2.size
 have B2:Hid (aq w2 w.heap.size (ae s ⟨⟨ta,tn,ag⟩,⟨la,ln,ah⟩,⟨ga,gn,ai⟩,⟨fa,fn,aj⟩,⟨ra,rn,ao⟩⟩)):=B0.out.keeps K2
 have C2:Hid (aq w2 (w.heap.size+1) (cc c)):=C0.out.keeps K2
 have R2:Hid (aq w2 (w.heap.size+2) zc):=R0.out.keeps K2
 clear hb0 hc0 CO B0 C0 R0 HS kZ hz k1 k2 K2
 have hb2:∀ w',aa w2 w'->∀ q,w'.cell? ⟨w.heap.size,q,none⟩=(ae s ⟨⟨ta,tn,ag⟩,⟨la,ln,ah⟩,⟨ga,gn,ai⟩,⟨fa,fn,aj⟩,⟨ra,rn,ao⟩⟩)[q]?:=fun w' k=>(B2.out.keeps k).cells
 dsimp only [ae] at hb2
 have hc2:∀ w',aa w2 w'->∀ q,w'.cell? ⟨w.heap.size+1,q,none⟩=(cc c)[q]?:=fun w' k=>(C2.out.keeps k).cells
 have DO:Hid (∀ (w':World) (lo:Nat) (v:Sv) (vs:List Lv),ay w' lo v vs s->lo <= w'.heap.size->Calls Tryz.prog 39 #[.agg (ae s v),ck c] w' (eQ w' lo v vs dn (ee s c))):=fun w' lo v vs o hl=>by
  have:=CL o hl HR.out c CM.out
  rw [sX.out] at this
  exact this
 go_cut [6,7] (fun p b wx=>∃ nb s' v' vs',p = .pointer (some ⟨nb,0,none⟩) /\ b = .int .i64 dn /\ Hid (aq wx nb (ae s' v')) /\ Hid (ay wx w2.heap.size v' vs' s') /\ Hid (dn=0->s'=ee s c) /\ aa w2 wx)
 case first =>
  refine wp_region_held_drew (S:=fun w'=>aa w2 w') (by kernel_rfl) ?_ (fun hHeld => ?_)
  ·exact (aa.refl w2).drew
  refine ad.go [0,2] ?_
  iterate 2 (refine aM (h := ?_);try simp only [au])
  refine ad.nil ?_
  refine wpAnyH_ready (rs:=[1,7]) (by kernel_rfl) (by simp) ?_
  refine AllReadyH.cons (by simp only [List.getElem?_toArray,List.getElem?_cons_succ,List.getElem?_cons_zero];rfl) (fun K hK => ?_) (AllReadyH.cons (by simp only [List.getElem?_toArray,List.getElem?_cons_succ,List.getElem?_cons_zero];rfl) (fun K hK => ?_) AllReadyH.nil)
  ·go_simp
   (go_at_call 40;refine (nZ (S2.out.keeps (by assumption))).mono ?_;rintro e w3 ⟨v3,vs3,rfl,o3,k3⟩;obtain ⟨⟨xA,xB,xC⟩,⟨xD,xE,xF⟩,⟨xG,xH,xI⟩,⟨xJ,xK,xL⟩,⟨xM,xN,xO⟩⟩:=v3;have K3:aa w2 w3:=aa.trans (by assumption) k3)
   try go_wp2_with fail
   refine hK.out _ _ ?_ fun hHeld => ?_
   ·first | assumption | exact aa.alloc (by assumption) _ | exact aa.trans (by assumption) (by assumption)
   clear hK K
   try simp only [au]
   refine wpAnyH_ready (rs:=[3,7]) (by kernel_rfl) (by simp) ?_
   refine AllReadyH.cons (by simp only [List.getElem?_toArray,List.getElem?_cons_succ,List.getElem?_cons_zero];rfl) (fun K hK => ?_) (AllReadyH.cons (by simp only [List.getElem?_toArray,List.getElem?_cons_succ,List.getElem?_cons_zero];rfl) (fun K hK => ?_) AllReadyH.nil)
   ·go_simp
    (go_at_call 39;refine (DO.out _ _ _ _ o3 (by have:=k3.size;simp at this ⊢;omega)).mono ?_;rintro e w4 ⟨s6,v6,eD,rfl,hs6,g6⟩;obtain ⟨⟨aZ,bd,bS⟩,⟨bg,bh,bT⟩,⟨bj,bk,bU⟩,⟨fa6,bm,bV⟩,⟨bn,bp,bW⟩⟩:=v6;have K4:aa w2 w4:=g6.keeps o3 (by first | assumption | exact K3.alloc _) (by simp))
    try go_wp2_with fail
    refine hK.out _ _ ?_ fun hHeld => ?_
    ·first | assumption | exact aa.alloc (by assumption) _ | exact aa.trans (by assumption) (by assumption)
    clear hK K
    try simp only [au]
    refine ad.go [4,5,6] ?_
    iterate 3 (refine aM (h := ?_);try simp only [au])
    refine ad.nil ?_
    refine aR 7 (h:=fun K hK => ?_)
    go_simp
    try go_wp2_with fail
    refine hK.out _ _ ?_ fun hHeld => ?_
    ·first | assumption | exact aa.alloc (by assumption) _ | exact aa.trans (by assumption) (by assumption)
    clear hK K
    try simp only [au]
    refine aR 8 (h:=fun K hK => ?_)
    go_simp
    try go_wp2_with fail
    refine hK.out _ (w4.alloc (.cells (ae (s6:Sy) ⟨⟨aZ,bd,bS⟩,⟨bg,bh,bT⟩,⟨bj,bk,bU⟩,⟨fa6,bm,bV⟩,⟨bn,bp,bW⟩⟩) 30)) ?_ (fun hHeld => ?_)
    ·exact K4.alloc _
    clear hK K
    try simp only [au]
    have hBN:Hid (aq (w4.alloc (.cells (ae (s6:Sy) ⟨⟨aZ,bd,bS⟩,⟨bg,bh,bT⟩,⟨bj,bk,bU⟩,⟨fa6,bm,bV⟩,⟨bn,bp,bW⟩⟩) 30)) w4.heap.size (ae (s6:Sy) ⟨⟨aZ,bd,bS⟩,⟨bg,bh,bT⟩,⟨bj,bk,bU⟩,⟨fa6,bm,bV⟩,⟨bn,bp,bW⟩⟩)):=aq.new _ _ _
    have pD:Hid (ay (w4.alloc (.cells (ae (s6:Sy) ⟨⟨aZ,bd,bS⟩,⟨bg,bh,bT⟩,⟨bj,bk,bU⟩,⟨fa6,bm,bV⟩,⟨bn,bp,bW⟩⟩) 30)) w2.heap.size ⟨⟨aZ,bd,bS⟩,⟨bg,bh,bT⟩,⟨bj,bk,bU⟩,⟨fa6,bm,bV⟩,⟨bn,bp,bW⟩⟩ eD s6):=(g6.own.base (by simp)).keeps ((aa.refl _).alloc _)
    generalize w4.alloc (.cells (ae (s6:Sy) ⟨⟨aZ,bd,bS⟩,⟨bg,bh,bT⟩,⟨bj,bk,bU⟩,⟨fa6,bm,bV⟩,⟨bn,bp,bW⟩⟩) 30)=XW at *
    refine di 9 (h := ?_)
    try simp only [au]
    refine wpAnyH_done (by kernel_rfl) ?_ _
    go_wp2_with fail
    go_meet
    exact ⟨w4.heap.size,s6,⟨⟨aZ,bd,bS⟩,⟨bg,bh,bT⟩,⟨bj,bk,bU⟩,⟨fa6,bm,bV⟩,⟨bn,bp,bW⟩⟩,eD,rfl,rfl,hBN,pD,hs6,by assumption⟩
   ·go_simp
    try go_wp2_with fail
    refine hK.out _ _ ?_ fun hHeld => ?_
    ·first | assumption | exact aa.alloc (by assumption) _ | exact aa.trans (by assumption) (by assumption)
    clear hK K
    try simp only [au]
    have wh:=o3.keeps ((aa.refl w3).alloc (.cells zc 30))
    refine aR 3 (h:=fun K hK => ?_)
    go_simp
    (go_at_call 39;refine (DO.out _ _ _ _ wh (by have:=k3.size;simp at this ⊢;omega)).mono ?_;rintro e w4 ⟨s6,v6,eD,rfl,hs6,g6⟩;obtain ⟨⟨aZ,bd,bS⟩,⟨bg,bh,bT⟩,⟨bj,bk,bU⟩,⟨fa6,bm,bV⟩,⟨bn,bp,bW⟩⟩:=v6;have K4:aa w2 w4:=g6.keeps wh (by first | assumption | exact K3.alloc _) (by simp))
    try go_wp2_with fail
    refine hK.out _ _ ?_ fun hHeld => ?_
    ·first | assumption | exact aa.alloc (by assumption) _ | exact aa.trans (by assumption) (by assumption)
    clear hK K
    try simp only [au]
    refine ad.go [4,5,6] ?_
    iterate 3 (refine aM (h := ?_);try simp only [au])
    refine ad.nil ?_
    have gB:aq w4 (w3.heap.size) zc:=g6.blk (aq.new _ _ _) (fun i hi=>by have:=(o3.aG hi).2;omega)
    have gC:Hid (aq w4 (w3.heap.size) zc):=gB
    obtain ⟨_,iz,iA⟩:=gB
    have hnb:w2.heap.size <= w3.heap.size:=by first | exact Nat.le_refl _ | exact K3.size
    have FN:∀ i,¬ aX ⟨⟨aZ,bd,bS⟩,⟨bg,bh,bT⟩,⟨bj,bk,bU⟩,⟨fa6,bm,bV⟩,⟨bn,bp,bW⟩⟩ eD i (w3.heap.size):=g6.far (aq.lt (aq.new _ _ _)) (fun i hi=>by have:=(o3.aG hi).2;omega)
    refine aR 8 (h:=fun K hK => ?_)
    go_simp
    try go_wp2_with fail
    refine hK.out _ (putC w4 (w3.heap.size) 0 (ae (s6:Sy) ⟨⟨aZ,bd,bS⟩,⟨bg,bh,bT⟩,⟨bj,bk,bU⟩,⟨fa6,bm,bV⟩,⟨bn,bp,bW⟩⟩).toList) ?_ (fun hHeld => ?_)
    ·exact aa.putC (b:=w3.heap.size) hnb (ae (s6:Sy) ⟨⟨aZ,bd,bS⟩,⟨bg,bh,bT⟩,⟨bj,bk,bU⟩,⟨fa6,bm,bV⟩,⟨bn,bp,bW⟩⟩).toList 0 K4
    clear hK K
    try simp only [au]
    have hBN:Hid (aq (putC w4 (w3.heap.size) 0 (ae (s6:Sy) ⟨⟨aZ,bd,bS⟩,⟨bg,bh,bT⟩,⟨bj,bk,bU⟩,⟨fa6,bm,bV⟩,⟨bn,bp,bW⟩⟩).toList) (w3.heap.size) (ae (s6:Sy) ⟨⟨aZ,bd,bS⟩,⟨bg,bh,bT⟩,⟨bj,bk,bU⟩,⟨fa6,bm,bV⟩,⟨bn,bp,bW⟩⟩)):=gC.out.putC (ae (s6:Sy) ⟨⟨aZ,bd,bS⟩,⟨bg,bh,bT⟩,⟨bj,bk,bU⟩,⟨fa6,bm,bV⟩,⟨bn,bp,bW⟩⟩).toList rfl
    have pD:Hid (ay (putC w4 (w3.heap.size) 0 (ae (s6:Sy) ⟨⟨aZ,bd,bS⟩,⟨bg,bh,bT⟩,⟨bj,bk,bU⟩,⟨fa6,bm,bV⟩,⟨bn,bp,bW⟩⟩).toList) w2.heap.size ⟨⟨aZ,bd,bS⟩,⟨bg,bh,bT⟩,⟨bj,bk,bU⟩,⟨fa6,bm,bV⟩,⟨bn,bp,bW⟩⟩ eD s6):=ay.aT FN _ _ (g6.own.base (by first | exact Nat.le_refl _ | simp))
    clear iz iA gC FN
    generalize putC w4 (w3.heap.size) 0 (ae (s6:Sy) ⟨⟨aZ,bd,bS⟩,⟨bg,bh,bT⟩,⟨bj,bk,bU⟩,⟨fa6,bm,bV⟩,⟨bn,bp,bW⟩⟩).toList=XW at *
    refine di 9 (h := ?_)
    try simp only [au]
    refine wpAnyH_done (by kernel_rfl) ?_ _
    go_wp2_with fail
    go_meet
    exact ⟨w3.heap.size,s6,⟨⟨aZ,bd,bS⟩,⟨bg,bh,bT⟩,⟨bj,bk,bU⟩,⟨fa6,bm,bV⟩,⟨bn,bp,bW⟩⟩,eD,rfl,rfl,hBN,pD,hs6,by assumption⟩
  ·go_simp
   try go_wp2_with fail
   refine hK.out _ _ ?_ fun hHeld => ?_
   ·first | assumption | exact aa.alloc (by assumption) _ | exact aa.trans (by assumption) (by assumption)
   clear hK K
   try simp only [au]
   refine aR 1 (h:=fun K hK => ?_)
   go_simp
   (go_at_call 40;refine (nZ (S2.out.keeps (by assumption))).mono ?_;rintro e w3 ⟨v3,vs3,rfl,o3,k3⟩;obtain ⟨⟨xA,xB,xC⟩,⟨xD,xE,xF⟩,⟨xG,xH,xI⟩,⟨xJ,xK,xL⟩,⟨xM,xN,xO⟩⟩:=v3;have K3:aa w2 w3:=aa.trans (by assumption) k3)
   try go_wp2_with fail
   refine hK.out _ _ ?_ fun hHeld => ?_
   ·first | assumption | exact aa.alloc (by assumption) _ | exact aa.trans (by assumption) (by assumption)
   clear hK K
   try simp only [au]
   refine aR 3 (h:=fun K hK => ?_)
   go_simp
   (go_at_call 39;refine (DO.out _ _ _ _ o3 (by have:=k3.size;simp at this ⊢;omega)).mono ?_;rintro e w4 ⟨s6,v6,eD,rfl,hs6,g6⟩;obtain ⟨⟨aZ,bd,bS⟩,⟨bg,bh,bT⟩,⟨bj,bk,bU⟩,⟨fa6,bm,bV⟩,⟨bn,bp,bW⟩⟩:=v6;have K4:aa w2 w4:=g6.keeps o3 (by first | assumption | exact K3.alloc _) (by simp))
   try go_wp2_with fail
   refine hK.out _ _ ?_ fun hHeld => ?_
   ·first | assumption | exact aa.alloc (by assumption) _ | exact aa.trans (by assumption) (by assumption)
   clear hK K
   try simp only [au]
   refine ad.go [4,5,6] ?_
   iterate 3 (refine aM (h := ?_);try simp only [au])
   refine ad.nil ?_
   have gB:aq w4 (w2.heap.size) zc:=g6.blk (((aq.new _ _ _).keeps (aa.refl _).drew).keeps k3) (fun i hi=>by have:=(o3.aG hi).1;simp at this;omega)
   have gC:Hid (aq w4 (w2.heap.size) zc):=gB
   obtain ⟨_,iz,iA⟩:=gB
   have hnb:w2.heap.size <= w2.heap.size:=by first | exact Nat.le_refl _ | exact K3.size
   have FN:∀ i,¬ aX ⟨⟨aZ,bd,bS⟩,⟨bg,bh,bT⟩,⟨bj,bk,bU⟩,⟨fa6,bm,bV⟩,⟨bn,bp,bW⟩⟩ eD i (w2.heap.size):=g6.far (aq.lt (((aq.new _ _ _).keeps (aa.refl _).drew).keeps k3)) (fun i hi=>by have:=(o3.aG hi).1;simp at this;omega)
   refine aR 8 (h:=fun K hK => ?_)
   go_simp
   try go_wp2_with fail
   refine hK.out _ (putC w4 (w2.heap.size) 0 (ae (s6:Sy) ⟨⟨aZ,bd,bS⟩,⟨bg,bh,bT⟩,⟨bj,bk,bU⟩,⟨fa6,bm,bV⟩,⟨bn,bp,bW⟩⟩).toList) ?_ (fun hHeld => ?_)
   ·exact aa.putC (b:=w2.heap.size) hnb (ae (s6:Sy) ⟨⟨aZ,bd,bS⟩,⟨bg,bh,bT⟩,⟨bj,bk,bU⟩,⟨fa6,bm,bV⟩,⟨bn,bp,bW⟩⟩).toList 0 K4
   clear hK K
   try simp only [au]
   have hBN:Hid (aq (putC w4 (w2.heap.size) 0 (ae (s6:Sy) ⟨⟨aZ,bd,bS⟩,⟨bg,bh,bT⟩,⟨bj,bk,bU⟩,⟨fa6,bm,bV⟩,⟨bn,bp,bW⟩⟩).toList) (w2.heap.size) (ae (s6:Sy) ⟨⟨aZ,bd,bS⟩,⟨bg,bh,bT⟩,⟨bj,bk,bU⟩,⟨fa6,bm,bV⟩,⟨bn,bp,bW⟩⟩)):=gC.out.putC (ae (s6:Sy) ⟨⟨aZ,bd,bS⟩,⟨bg,bh,bT⟩,⟨bj,bk,bU⟩,⟨fa6,bm,bV⟩,⟨bn,bp,bW⟩⟩).toList rfl
   have pD:Hid (ay (putC w4 (w2.heap.size) 0 (ae (s6:Sy) ⟨⟨aZ,bd,bS⟩,⟨bg,bh,bT⟩,⟨bj,bk,bU⟩,⟨fa6,bm,bV⟩,⟨bn,bp,bW⟩⟩).toList) w2.heap.size ⟨⟨aZ,bd,bS⟩,⟨bg,bh,bT⟩,⟨bj,bk,bU⟩,⟨fa6,bm,bV⟩,⟨bn,bp,bW⟩⟩ eD s6):=ay.aT FN _ _ (g6.own.base (by first | exact Nat.le_refl _ | simp))
   clear iz iA gC FN
   generalize putC w4 (w2.heap.size) 0 (ae (s6:Sy) ⟨⟨aZ,bd,bS⟩,⟨bg,bh,bT⟩,⟨bj,bk,bU⟩,⟨fa6,bm,bV⟩,⟨bn,bp,bW⟩⟩).toList=XW at *
   refine di 9 (h := ?_)
   try simp only [au]
   refine wpAnyH_done (by kernel_rfl) ?_ _
   go_wp2_with fail
   go_meet
   exact ⟨w2.heap.size,s6,⟨⟨aZ,bd,bS⟩,⟨bg,bh,bT⟩,⟨bj,bk,bU⟩,⟨fa6,bm,bV⟩,⟨bn,bp,bW⟩⟩,eD,rfl,rfl,hBN,pD,hs6,by assumption⟩
 case rest =>
 obtain ⟨nb,s',v',vs',rfl,rfl,BN,ON,wi,kx⟩:=hcut
 generalize wc=wx at *
 clear DO
 obtain ⟨⟨zA,zB,zC⟩,⟨zD,zE,zF⟩,⟨zG,zH,zI⟩,⟨zJ,zK,zL⟩,⟨zM,zN,zO⟩⟩:=v'
 have hx2:Hid (w2.heap.size <= wx.heap.size):=kx.size
 cases d0:(dn==0)
 ·have d0':(dn != 0)=true:=by simp [bne,d0]
  have sY:Hid (fW s c=s):=by show _=_;rw [HC.out,d0];rfl
  have HD0:Hid ((dn==0)=false):=d0
  clear d0 BN ON wi
  go_wp2_with (go_at_call 40;refine (nZ (S2.out.keeps kx)).mono ?_;rintro e w8 ⟨v8,pd,rfl,o8,k8⟩;obtain ⟨⟨mB,mD,mF⟩,⟨mG,mH,mJ⟩,⟨mL,mM,mN⟩,⟨mO,mP,mQ⟩,⟨mS,mT,mU⟩⟩:=v8;obtain ⟨_,r1,r2⟩:=R2.out.keeps (kx.trans k8))
  have D:=(R2.out.keeps (kx.trans k8)).putC (ae (s:Sy) ⟨⟨mB,mD,mF⟩,⟨mG,mH,mJ⟩,⟨mL,mM,mN⟩,⟨mO,mP,mQ⟩,⟨mS,mT,mU⟩⟩).toList rfl
  have KQ:=aa.putC (b:=w.heap.size+2) (by omega) (ae (s:Sy) ⟨⟨mB,mD,mF⟩,⟨mG,mH,mJ⟩,⟨mL,mM,mN⟩,⟨mO,mP,mQ⟩,⟨mS,mT,mU⟩⟩).toList 0 (wg.trans (kx.trans k8))
  have SQ:ay (putC w8 (w.heap.size+2) 0 (ae (s:Sy) ⟨⟨mB,mD,mF⟩,⟨mG,mH,mJ⟩,⟨mL,mM,mN⟩,⟨mO,mP,mQ⟩,⟨mS,mT,mU⟩⟩).toList) w.heap.size ⟨⟨mB,mD,mF⟩,⟨mG,mH,mJ⟩,⟨mL,mM,mN⟩,⟨mO,mP,mQ⟩,⟨mS,mT,mU⟩⟩ pd s:=(ay.aT (c:=w.heap.size+2) (fun i hi=>by have:=(o8.aG hi).1;have:=hz2.out;have:=hx2.out;omega) _ _ o8).base (by have:=hz2.out;have:=hx2.out;omega)
  change bodyPost _ _ _ _ _ (putC w8 (w.heap.size+2) 0 (ae (s:Sy) ⟨⟨mB,mD,mF⟩,⟨mG,mH,mJ⟩,⟨mL,mM,mN⟩,⟨mO,mP,mQ⟩,⟨mS,mT,mU⟩⟩).toList)
  generalize putC w8 (w.heap.size+2) 0 (ae (s:Sy) ⟨⟨mB,mD,mF⟩,⟨mG,mH,mJ⟩,⟨mL,mM,mN⟩,⟨mO,mP,mQ⟩,⟨mS,mT,mU⟩⟩).toList=Q at D KQ SQ ⊢
  exact bodyPost_ret (v := .tuple #[.agg (ae (s:Sy) ⟨⟨mB,mD,mF⟩,⟨mG,mH,mJ⟩,⟨mL,mM,mN⟩,⟨mO,mP,mQ⟩,⟨mS,mT,mU⟩⟩),.int .i64 dn]) (by simp [results,Tryz.results12,go_sem,D.cells]) rfl (Told.of HN.out sY.out SQ KQ)
 ·have d0':(dn != 0)=false:=by simp [bne,d0]
  have sY:Hid (fW s c=s'):=by show _=_;rw [HC.out,d0,wi.out (by simpa using d0)];rfl
  obtain ⟨_,b1,b2⟩:=BN.out
  dsimp only [ae] at b1
  obtain ⟨_,r1,r2⟩:=R2.out.keeps kx
  clear d0
  go_wp2
  have D:=(R2.out.keeps kx).putC (ae (s':Sy) ⟨⟨zA,zB,zC⟩,⟨zD,zE,zF⟩,⟨zG,zH,zI⟩,⟨zJ,zK,zL⟩,⟨zM,zN,zO⟩⟩).toList rfl
  have KQ:=aa.putC (b:=w.heap.size+2) (by omega) (ae (s':Sy) ⟨⟨zA,zB,zC⟩,⟨zD,zE,zF⟩,⟨zG,zH,zI⟩,⟨zJ,zK,zL⟩,⟨zM,zN,zO⟩⟩).toList 0 (wg.trans kx)
  have SQ:ay (putC wx (w.heap.size+2) 0 (ae (s':Sy) ⟨⟨zA,zB,zC⟩,⟨zD,zE,zF⟩,⟨zG,zH,zI⟩,⟨zJ,zK,zL⟩,⟨zM,zN,zO⟩⟩).toList) w.heap.size ⟨⟨zA,zB,zC⟩,⟨zD,zE,zF⟩,⟨zG,zH,zI⟩,⟨zJ,zK,zL⟩,⟨zM,zN,zO⟩⟩ vs' s':=(ay.aT (c:=w.heap.size+2) (fun i hi=>by have:=(ON.out.aG hi).1;have:=hz2.out;omega) _ _ ON.out).base (by have:=hz2.out;omega)
  change bodyPost _ _ _ _ _ (putC wx (w.heap.size+2) 0 (ae (s':Sy) ⟨⟨zA,zB,zC⟩,⟨zD,zE,zF⟩,⟨zG,zH,zI⟩,⟨zJ,zK,zL⟩,⟨zM,zN,zO⟩⟩).toList)
  generalize putC wx (w.heap.size+2) 0 (ae (s':Sy) ⟨⟨zA,zB,zC⟩,⟨zD,zE,zF⟩,⟨zG,zH,zI⟩,⟨zJ,zK,zL⟩,⟨zM,zN,zO⟩⟩).toList=Q at D KQ SQ ⊢
  exact bodyPost_ret (v := .tuple #[.agg (ae (s':Sy) ⟨⟨zA,zB,zC⟩,⟨zD,zE,zF⟩,⟨zG,zH,zI⟩,⟨zJ,zK,zL⟩,⟨zM,zN,zO⟩⟩),.int .i64 dn]) (by simp [results,Tryz.results12,go_sem,D.cells]) rfl (Told.of HN.out sY.out SQ KQ)
end Go.Proofs.YteagpjlgjfaclaaGreatDoor
