/-
  Calls: a lock is freed.
-/
import Derived.Test.YteagpjlgjfaclaaGreatDoorTaskDel
import Derived.Test.YteagpjlgjfaclaaGreatDoorLockAsk
import Derived.Test.YteagpjlgjfaclaaGreatDoorSumSpec
import Derived.Test.YteagpjlgjfaclaaGreatDoorLockSpec2
import Derived.Deep.Cut
import Derived.Test.YteagpjlgjfaclaaGreatDoorCallSpec
import Derived.Test.YteagpjlgjfaclaaGreatDoorFairList
namespace Go.Proofs.YteagpjlgjfaclaaGreatDoor
set_option maxRecDepth 100000
open Go.RowKit
attribute [local go_sem] aa.refl aa.alloc aa.drew aa.drewN
set_option linter.unusedSimpArgs false in
set_option maxHeartbeats 8000000 in
theorem Bp {w:World} {lo:Nat} {v:Sv} {vs:List Lv} {s:Sy} (h:ay w lo v vs s) (hl:lo <= w.heap.size) (R:cx s) (c:Cl) {k:Nat} {t:ar} (ht:s.tasks[k]?=some t) :
  Calls Tryz.prog 87 #[.agg (ae s v),ck c,.int .i64 k] w (eQ w lo v vs (kr s c t) (oU s c)):=by
 obtain ⟨⟨ta,tn,ag⟩,⟨la,ln,ah⟩,⟨ga,gn,ai⟩,⟨fa,fn,aj⟩,⟨ra,rn,ao⟩⟩:=v
 have hk:k < s.tasks.length:=cZ ht
 obtain ⟨tb,htb⟩:=h.aW hk
 dsimp only at htb
 subst htb
 cases c1:aH c.a 0 4
 ·have HN:Hid (kr s c t=2):=by show _=_;unfold kr;rw [c1];rfl
  obtain ⟨dj,dx,kZ⟩:=et h hl c
  have C0:Hid (aq _ (w.heap.size+1) (cc c)):=dx
  have A0:Hid (aQ w lo _ vs _ w.heap.size (w.heap.size+2) _ vs s):=dj
  have HS:Hid (aA _ _ s):=(h.on (by have:=R.small;omega)).keeps kZ
  clear dj dx h
  go_enter Tryz.func87,Tryz.ntmps87
  go_wp2_with fail
  change Calls _ _ _ (cO w ⟨⟨some ⟨tb,0,none⟩,tn,ag⟩,⟨la,ln,ah⟩,⟨ga,gn,ai⟩,⟨fa,fn,aj⟩,⟨ra,rn,ao⟩⟩ s c) _
  generalize cO w ⟨⟨some ⟨tb,0,none⟩,tn,ag⟩,⟨la,ln,ah⟩,⟨ga,gn,ai⟩,⟨fa,fn,aj⟩,⟨ra,rn,ao⟩⟩ s c=Z at *
  have hb0:∀ w',aa Z w'->∀ q,w'.cell? ⟨w.heap.size,q,none⟩=(ae s ⟨⟨some ⟨tb,0,none⟩,tn,ag⟩,⟨la,ln,ah⟩,⟨ga,gn,ai⟩,⟨fa,fn,aj⟩,⟨ra,rn,ao⟩⟩)[q]?:=fun w' k=>(A0.out.g.var.box.keeps k).cells
  dsimp only [ae] at hb0
  have hc0:∀ w',aa Z w'->∀ q,w'.cell? ⟨w.heap.size+1,q,none⟩=(cc c)[q]?:=fun w' k=>(C0.out.keeps k).cells
  refine (bq _ _ _ _).mono ?_
  rintro e w' ⟨rfl,hw'⟩
  have hw2:=hw'.symm
  subst hw2
  rw [c1]
  have AE:=A0.out
  obtain ⟨_,o1,o2⟩:=AE.g.var.box
  dsimp only [ae] at o1
  obtain ⟨_,r1,r2⟩:=AE.r
  go_wp2
  exact AE.ret HN.out (fun h=>absurd h (by decide)) rfl (fun Q D=>by simp [results,Tryz.results87,go_sem,D])
 obtain ⟨ha0,ha1⟩:=dq.1 c1
 obtain ⟨ck,cn,cp,ca,cb⟩:=c
 dsimp only at ha0 ha1 c1
 obtain ⟨j,rfl⟩:∃ j:Nat,ca=(j:Int):=⟨ca.toNat,by omega⟩
 obtain ⟨l,jx⟩:=cd (xs:=s.ak) (k:=j) (by rw [R.five];omega)
 have ON:=h.on (by have:=R.small;omega)
 obtain ⟨hjn,lb,de,a',cap',ha,l0,l1,hwl,hws⟩:=ON.gx.at jx
 dsimp only at ha
 subst ha
 have hkn:(k:Int) < (tn:Int):=by have:=ON.lay.tl;dsimp only at this;omega
 have sI:(j:Int) < (ln:Int):=by dsimp only at hjn;omega
 have T0:∀ w',aa w w'->∀ i,i < 14->w'.cell? ⟨tb,k*14+i,none⟩=(tc t)[i]?:=fun w' kk i hi=>(kk.cells tb _ (h.aG (i:=0) (b:=tb) rfl).2).trans ((h.aJ (rb:=tb) rfl ht).1 i hi)
 clear ON
 obtain ⟨za,Hz⟩:∃ z,Hid (dS s.ak cn=z):=⟨_,rfl⟩
 obtain ⟨bad,dy⟩:∃ z,Hid (((t.st==2)||(decide (0 <= za)||(l.owner != cn)))=z):=⟨_,rfl⟩
 obtain ⟨bi,wj⟩:∃ z,Hid (j3 s.tasks l.waits=z):=⟨_,rfl⟩
 have dJ:Hid (kr s ⟨ck,cn,cp,j,cb⟩ t=if bad then 5 else 0):=by
  show _=_
  have e1:(!decide (za < 0))=decide (0 <= za):=by rw [Bool.eq_iff_iff];simp
  unfold kr
  dsimp only
  rw [c1,Hz.out,e1,Int.toNat_natCast,iP jx,dy.out]
  simp
 have kR:Hid (oU s ⟨ck,cn,cp,j,cb⟩={ s with ak:=fy s.ak j cn bi }):=by
  show _=_
  unfold oU
  dsimp only
  rw [Int.toNat_natCast,CN jx,wj.out]
 obtain ⟨dj,dx,kZ⟩:=et h hl ⟨ck,cn,cp,j,cb⟩
 have C0:Hid (aq _ (w.heap.size+1) (cc ⟨ck,cn,cp,j,cb⟩)):=dx
 have A0:Hid (aQ w lo _ vs _ w.heap.size (w.heap.size+2) _ vs s):=dj
 have HS:Hid (aA _ _ s):=(h.on (by have:=R.small;omega)).keeps kZ
 clear dj dx h
 have TC:∀ w',aa (cO w ⟨⟨some ⟨tb,0,none⟩,tn,ag⟩,⟨some ⟨lb,de,none⟩,ln,ah⟩,⟨ga,gn,ai⟩,⟨fa,fn,aj⟩,⟨ra,rn,ao⟩⟩ s ⟨ck,cn,cp,j,cb⟩) w'->∀ i,i < 14->w'.cell? ⟨tb,k*14+i,none⟩=(tc t)[i]?:=fun w' kk=>T0 w' (kZ.trans kk)
 have LC:∀ w',aa (cO w ⟨⟨some ⟨tb,0,none⟩,tn,ag⟩,⟨some ⟨lb,de,none⟩,ln,ah⟩,⟨ga,gn,ai⟩,⟨fa,fn,aj⟩,⟨ra,rn,ao⟩⟩ s ⟨ck,cn,cp,j,cb⟩) w'->w'.cell? ⟨lb,de+j*2,none⟩=some (.int .i64 l.owner):=fun w' kk=>l0 w' (kZ.trans kk)
 have LW:∀ w',aa (cO w ⟨⟨some ⟨tb,0,none⟩,tn,ag⟩,⟨some ⟨lb,de,none⟩,ln,ah⟩,⟨ga,gn,ai⟩,⟨fa,fn,aj⟩,⟨ra,rn,ao⟩⟩ s ⟨ck,cn,cp,j,cb⟩) w'->w'.cell? ⟨lb,de+j*2+1,none⟩=some (.slice a' l.waits.length cap'):=fun w' kk=>l1 w' (kZ.trans kk)
 have HW:Hid (Ns (cO w ⟨⟨some ⟨tb,0,none⟩,tn,ag⟩,⟨some ⟨lb,de,none⟩,ln,ah⟩,⟨ga,gn,ai⟩,⟨fa,fn,aj⟩,⟨ra,rn,ao⟩⟩ s ⟨ck,cn,cp,j,cb⟩) a' l.waits):=hws.keeps kZ
 have CR:Hid (l.waits.length <= maxLen):=hwl
 clear T0 l0 l1 hws hwl
 go_enter Tryz.func87,Tryz.ntmps87
 go_wp2_with fail
 change Calls _ _ _ (cO w ⟨⟨some ⟨tb,0,none⟩,tn,ag⟩,⟨some ⟨lb,de,none⟩,ln,ah⟩,⟨ga,gn,ai⟩,⟨fa,fn,aj⟩,⟨ra,rn,ao⟩⟩ s ⟨ck,cn,cp,j,cb⟩) _
 generalize cO w ⟨⟨some ⟨tb,0,none⟩,tn,ag⟩,⟨some ⟨lb,de,none⟩,ln,ah⟩,⟨ga,gn,ai⟩,⟨fa,fn,aj⟩,⟨ra,rn,ao⟩⟩ s ⟨ck,cn,cp,j,cb⟩=Z at *
 have hb0:∀ w',aa Z w'->∀ q,w'.cell? ⟨w.heap.size,q,none⟩=(ae s ⟨⟨some ⟨tb,0,none⟩,tn,ag⟩,⟨some ⟨lb,de,none⟩,ln,ah⟩,⟨ga,gn,ai⟩,⟨fa,fn,aj⟩,⟨ra,rn,ao⟩⟩)[q]?:=fun w' k=>(A0.out.g.var.box.keeps k).cells
 dsimp only [ae] at hb0
 have hc0:∀ w',aa Z w'->∀ q,w'.cell? ⟨w.heap.size+1,q,none⟩=(cc ⟨ck,cn,cp,j,cb⟩)[q]?:=fun w' k=>(C0.out.keeps k).cells
 have WA:Hid (∀ w',aa Z w'->Calls Tryz.prog 84 #[.slice (some ⟨lb,de,none⟩) ln ah,.int .i64 cn] w' fun e w''=>e = .returned (.int .i64 za) /\ aa w' w''):=fun w' kk=>HS.out.gx.eK cn Hz.out kk
 refine (bq _ _ _ _).mono ?_
 rintro e w' ⟨rfl,hw'⟩
 have hw2:=hw'.symm
 subst hw2
 rw [c1]
 go_upto_region 3 with fail
 go_cut [39] (fun b wx=>b = .bool bad /\ aa Z wx)
 case first =>
  cases d1:(t.st==2)
  rotate_left
  ·have hr:bad=true:=by rw [<- dy.out,d1];rfl
   refine wp_region_held_drew (S:=(fun w'=>aa Z w')) (by kernel_rfl) ?_ (fun hHeld => ?_)
   ·exact (aa.refl Z).drew
   refine ad.go [0,1,2,3,4,5,6,7] ?_
   iterate 8 (refine aM (h := ?_);try simp only [au])
   refine ad.nil ?_
   refine ad.go [8,9,10,11,12,13] ?_
   iterate 6 (refine dK (h := ?_);try simp only [au])
   refine ad.nil ?_
   refine ad.go [14,15] ?_
   iterate 2 (refine aM (h := ?_);try simp only [au])
   refine ad.nil ?_
   refine ad.go [16,17,18,19,20,21,22,23,24,25] ?_
   iterate 10 (refine dK (h := ?_);try simp only [au])
   refine ad.nil ?_
   refine di 26 (h := ?_)
   try simp only [au]
   refine wpAnyH_done (by kernel_rfl) ?_ _
   go_wp2
   go_meet
   exact ⟨by rw [hr],by first | assumption | exact (aa.refl _).drew⟩
  cases d2:decide (0 <= za)
  rotate_left
  ·have hr:bad=true:=by rw [<- dy.out,d1,d2];rfl
   refine wp_region_held_drew (S:=(fun w'=>aa Z w')) (by kernel_rfl) ?_ (fun hHeld => ?_)
   ·exact (aa.refl Z).drew
   refine ad.go [0,1,2,3,4,5,6,7,8,9,10,11] ?_
   iterate 12 (refine aM (h := ?_);try simp only [au])
   refine ad.nil ?_
   refine aR 12 (h:=fun K hK => ?_)
   go_simp
   (go_at_call 84;refine (WA.out _ (by first | assumption | exact aa.refl _ | exact (aa.refl _).drew | exact aa.drew (by assumption))).mono ?_;rintro e w5 ⟨rfl,k5⟩)
   try go_wp2_with fail
   refine hK.out _ _ ?_ fun hHeld => ?_
   ·first | assumption | exact aa.trans (by assumption) (by assumption)
   clear hK K
   try simp only [au]
   refine ad.go [13,14,15] ?_
   iterate 3 (refine aM (h := ?_);try simp only [au])
   refine ad.nil ?_
   refine ad.go [16,17,18,19,20,21,22,23,24,25] ?_
   iterate 10 (refine dK (h := ?_);try simp only [au])
   refine ad.nil ?_
   refine di 26 (h := ?_)
   try simp only [au]
   refine wpAnyH_done (by kernel_rfl) ?_ _
   go_wp2
   go_meet
   exact ⟨by rw [hr],by first | assumption | exact (aa.refl _).drew⟩
  have hr:bad=(l.owner != cn):=by rw [<- dy.out,d1,d2];rfl
  refine wp_region_held_drew (S:=(fun w'=>aa Z w')) (by kernel_rfl) ?_ (fun hHeld => ?_)
  ·exact (aa.refl Z).drew
  refine ad.go [0,1,2,3,4,5,6,7,8,9,10,11] ?_
  iterate 12 (refine aM (h := ?_);try simp only [au])
  refine ad.nil ?_
  refine aR 12 (h:=fun K hK => ?_)
  go_simp
  (go_at_call 84;refine (WA.out _ (by first | assumption | exact aa.refl _ | exact (aa.refl _).drew | exact aa.drew (by assumption))).mono ?_;rintro e w5 ⟨rfl,k5⟩)
  try go_wp2_with fail
  refine hK.out _ _ ?_ fun hHeld => ?_
  ·first | assumption | exact aa.trans (by assumption) (by assumption)
  clear hK K
  try simp only [au]
  refine ad.go [13,14,15,16,17,18,19,20,21,22,23,24,25,26] ?_
  iterate 14 (refine aM (h := ?_);try simp only [au])
  refine ad.nil ?_
  refine wpAnyH_done (by kernel_rfl) ?_ _
  go_wp2
  go_meet
  exact ⟨by rw [hr],by first | assumption | exact (aa.refl _).drew⟩
 case rest =>
 obtain ⟨rfl,kx⟩:=hcut
 generalize wc=wx at *
 clear WA TC LC dy Hz
 cases bad
 rotate_left
 ·have HN:Hid (kr s ⟨ck,cn,cp,j,cb⟩ t=5):=dJ.out
  have AE:=A0.out.keeps kx
  obtain ⟨_,o1,o2⟩:=AE.g.var.box
  dsimp only [ae] at o1
  obtain ⟨_,r1,r2⟩:=AE.r
  go_wp2
  exact AE.ret HN.out (fun h=>absurd h (by decide)) rfl (fun Q D=>by simp [results,Tryz.results87,go_sem,D])
 have BO:Hid (∀ w',aa Z w'->Calls Tryz.prog 152 #[.slice (some ⟨tb,0,none⟩) tn ag,.slice a' l.waits.length cap'] w' fun e w''=>e = .returned (.int .i64 bi) /\ aa w' w''):=fun w' kk=>by
  have:=CK (HS.out.keeps kk).gF a' cap' l.waits CR.out (HW.out.keeps kk)
  rw [wj.out] at this
  exact this
 have LF:Hid (∀ w',aa Z w'->Calls Tryz.prog 151 #[.slice (some ⟨lb,de,none⟩) ln ah,.int .i64 j,.int .i64 cn,.int .i64 bi] w' fun e w''=>∃ u us,e = .returned (.tuple #[u,.bool (gX s.ak j cn bi)]) /\ Mine w'' w'.heap.size w''.heap.size u us (fy s.ak j cn bi) /\ aa w' w''):=fun w' kk=>by
  have O:=HS.out.gx.keeps kk
  have:=CS (some ⟨lb,de,none⟩) ah s.ak j cn bi w' O.size O.gT
  rw [O.len] at this
  exact this
 go_upto_region 5 with fail
 refine CU 21 (S:=(fun w'=>aa Z w')) (by kernel_rfl) ?_ (fun hHeld => ?_)
 ·exact kx.drew
 refine ad.go [0,1,2,3,4,5,6,7,8,9,10,11,12,13,14] ?_
 iterate 15 (refine mV (h := ?_);try simp only [au])
 refine ad.nil ?_
 refine wk (i:=15) (h:=fun K hK => ?_)
 go_simp
 first
  | (go_at_call 152;refine (BO.out _ (by assumption)).mono ?_;rintro e w7 ⟨rfl,k7⟩;have K7:aa Z w7:=aa.trans (by assumption) k7)
  | (go_at_call 151;refine (LF.out _ (by assumption)).mono ?_;rintro e w8 ⟨u8,qW,rfl,M8,k8⟩;obtain ⟨a8,c8,e8,-,-⟩:=M8.gT;obtain ⟨m8,sZ⟩:∃ m,Hid ((fy s.ak j cn bi).length=m):=⟨_,rfl⟩;rw [sZ.out] at e8;subst e8;have wm:Hid (Mine w8 w7.heap.size w8.heap.size (Value.slice a8 m8 c8) qW (fy s.ak j cn bi)):=M8;clear M8)
 try go_wp2_with fail
 refine hK.out _ _ ?_ fun hHeld => ?_
 ·first | assumption | exact aa.trans (by assumption) (by assumption)
 clear hK K
 try simp only [au]
 refine wk (i:=16) (h:=fun K hK => ?_)
 go_simp
 first
  | (go_at_call 152;refine (BO.out _ (by assumption)).mono ?_;rintro e w7 ⟨rfl,k7⟩;have K7:aa Z w7:=aa.trans (by assumption) k7)
  | (go_at_call 151;refine (LF.out _ (by assumption)).mono ?_;rintro e w8 ⟨u8,qW,rfl,M8,k8⟩;obtain ⟨a8,c8,e8,-,-⟩:=M8.gT;obtain ⟨m8,sZ⟩:∃ m,Hid ((fy s.ak j cn bi).length=m):=⟨_,rfl⟩;rw [sZ.out] at e8;subst e8;have wm:Hid (Mine w8 w7.heap.size w8.heap.size (Value.slice a8 m8 c8) qW (fy s.ak j cn bi)):=M8;clear M8)
 try go_wp2_with fail
 refine hK.out _ _ ?_ fun hHeld => ?_
 ·first | assumption | exact aa.trans (by assumption) (by assumption)
 clear hK K
 try simp only [au]
 refine ad.go [17,18] ?_
 iterate 2 (refine mV (h := ?_);try simp only [au])
 refine ad.nil ?_
 refine CV (i:=19) (v := ?_) (by simp only [List.getElem?_toArray,List.getElem?_cons_succ,List.getElem?_cons_zero];rfl) (by kernel_rfl) (by kernel_rfl) (by kernel_rfl) (by kernel_rfl) (by exact fun _ _ _ h=>h) (Or.inl ⟨by rfl,?_⟩) (by assumption) ?_
 rotate_left
 ·(intro w _;go_simp;try (with_reducible rfl))
 try simp only [au]
 refine ad.go [20] ?_
 iterate 1 (refine mV (h := ?_);try simp only [au])
 refine ad.nil ?_
 refine CW (h:=fun K hK => ?_)
 have K8:aa Z w8:=(by assumption);obtain ⟨_,p1,p2⟩:=(A0.out.keeps K8).g.var.box;dsimp only [ae] at p1
 go_simp
 try go_wp2_with fail
 refine hK.out _ _ ?_
 clear hK K
 try simp only [au]
 have HN:Hid (kr s ⟨ck,cn,cp,j,cb⟩ t=0):=dJ.out
 have AN:Hid (aQ w lo ⟨⟨some ⟨tb,0,none⟩,tn,ag⟩,⟨some ⟨lb,de,none⟩,ln,ah⟩,⟨ga,gn,ai⟩,⟨fa,fn,aj⟩,⟨ra,rn,ao⟩⟩ vs (w8.setCell ⟨w.heap.size,3,none⟩ (.slice a8 m8 c8)) w.heap.size (w.heap.size+2) ⟨⟨some ⟨tb,0,none⟩,tn,ag⟩,⟨a8,m8,c8⟩,⟨ga,gn,ai⟩,⟨fa,fn,aj⟩,⟨ra,rn,ao⟩⟩ qW { (s:Sy) with ak:=fy s.ak j cn bi }):=(A0.out.keeps K7).ak k8 (x:=⟨a8,m8,c8⟩) wm.out
 clear p1 p2 BO LF hb0 hc0
 generalize w8.setCell ⟨w.heap.size,3,none⟩ (.slice a8 m8 c8)=X at *
 have AE:=AN.out
 obtain ⟨_,o1,o2⟩:=AE.g.var.box
 dsimp only [ae] at o1
 obtain ⟨_,r1,r2⟩:=AE.r
 go_wp2
 exact AE.ret HN.out (fun _=>kR.out.symm) rfl (fun Q D=>by simp [results,Tryz.results87,go_sem,D])
end Go.Proofs.YteagpjlgjfaclaaGreatDoor
