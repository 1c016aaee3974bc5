/-
  Calls: a lock is asked for.
-/
import Derived.Test.YteagpjlgjfaclaaGreatDoorTaskDel
import Derived.Test.YteagpjlgjfaclaaGreatDoorLockAsk
import Derived.Test.YteagpjlgjfaclaaGreatDoorSumSpec
import Derived.Test.YteagpjlgjfaclaaGreatDoorLockSpec2
import Derived.Deep.Cut
import Derived.Test.YteagpjlgjfaclaaGreatDoorCallLaws
namespace Go.Proofs.YteagpjlgjfaclaaGreatDoor
set_option maxRecDepth 100000
open Go.RowKit
attribute [local go_sem] aa.refl aa.alloc aa.drew aa.drewN
set_option linter.unusedSimpArgs false in
set_option maxHeartbeats 8000000 in
theorem Bn {w:World} {lo:Nat} {v:Sv} {vs:List Lv} {s:Sy} (h:ay w lo v vs s) (hl:lo <= w.heap.size) (R:cx s) (c:Cl) {k:Nat} {t:ar} (ht:s.tasks[k]?=some t) :
  Calls Tryz.prog 86 #[.agg (ae s v),ck c,.int .i64 k] w (eQ w lo v vs (jS s c t) (sc s c)):=by
 obtain ⟨⟨ta,tn,ag⟩,⟨la,ln,ah⟩,⟨ga,gn,ai⟩,⟨fa,fn,aj⟩,⟨ra,rn,ao⟩⟩:=v
 have hk:k < s.tasks.length:=cZ ht
 obtain ⟨tb,htb⟩:=h.aW hk
 dsimp only at htb
 subst htb
 cases c1:aH c.a 0 4
 ·have HN:Hid (jS s c t=2):=by show _=_;unfold jS;rw [c1];rfl
  obtain ⟨dj,dx,kZ⟩:=et h hl c
  have C0:Hid (aq _ (w.heap.size+1) (cc c)):=dx
  have A0:Hid (aQ w lo _ vs _ w.heap.size (w.heap.size+2) _ vs s):=dj
  have HS:Hid (aA _ _ s):=(h.on (by have:=R.small;omega)).keeps kZ
  clear dj dx h
  go_enter Tryz.func86,Tryz.ntmps86
  go_wp2_with fail
  change Calls _ _ _ (cO w ⟨⟨some ⟨tb,0,none⟩,tn,ag⟩,⟨la,ln,ah⟩,⟨ga,gn,ai⟩,⟨fa,fn,aj⟩,⟨ra,rn,ao⟩⟩ s c) _
  generalize cO w ⟨⟨some ⟨tb,0,none⟩,tn,ag⟩,⟨la,ln,ah⟩,⟨ga,gn,ai⟩,⟨fa,fn,aj⟩,⟨ra,rn,ao⟩⟩ s c=Z at *
  have hb0:∀ w',aa Z w'->∀ q,w'.cell? ⟨w.heap.size,q,none⟩=(ae s ⟨⟨some ⟨tb,0,none⟩,tn,ag⟩,⟨la,ln,ah⟩,⟨ga,gn,ai⟩,⟨fa,fn,aj⟩,⟨ra,rn,ao⟩⟩)[q]?:=fun w' k=>(A0.out.g.var.box.keeps k).cells
  dsimp only [ae] at hb0
  have hc0:∀ w',aa Z w'->∀ q,w'.cell? ⟨w.heap.size+1,q,none⟩=(cc c)[q]?:=fun w' k=>(C0.out.keeps k).cells
  refine (bq _ _ _ _).mono ?_
  rintro e w' ⟨rfl,hw'⟩
  have hw2:=hw'.symm
  subst hw2
  rw [c1]
  have AE:=A0.out
  obtain ⟨_,o1,o2⟩:=AE.g.var.box
  dsimp only [ae] at o1
  obtain ⟨_,r1,r2⟩:=AE.r
  go_wp2
  exact AE.ret HN.out (fun h=>absurd h (by decide)) rfl (fun Q D=>by simp [results,Tryz.results86,go_sem,D])
 obtain ⟨ha0,ha1⟩:=dq.1 c1
 obtain ⟨ck,cn,cp,ca,cb⟩:=c
 dsimp only at ha0 ha1 c1
 obtain ⟨j,rfl⟩:∃ j:Nat,ca=(j:Int):=⟨ca.toNat,by omega⟩
 obtain ⟨l,jx⟩:=cd (xs:=s.ak) (k:=j) (by rw [R.five];omega)
 have ON:=h.on (by have:=R.small;omega)
 obtain ⟨hjn,lb,de,a',cap',ha,l0,l1,hwl,hws⟩:=ON.gx.at jx
 dsimp only at ha
 subst ha
 have hkn:(k:Int) < (tn:Int):=by have:=ON.lay.tl;dsimp only at this;omega
 have sI:(j:Int) < (ln:Int):=by dsimp only at hjn;omega
 have T0:∀ w',aa w w'->∀ i,i < 14->w'.cell? ⟨tb,k*14+i,none⟩=(tc t)[i]?:=fun w' kk i hi=>(kk.cells tb _ (h.aG (i:=0) (b:=tb) rfl).2).trans ((h.aJ (rb:=tb) rfl ht).1 i hi)
 clear ON
 obtain ⟨za,Hz⟩:∃ z,Hid (dS s.ak cn=z):=⟨_,rfl⟩
 obtain ⟨sm,Hsm⟩:∃ z,Hid (ew s j cn=z):=⟨_,rfl⟩
 obtain ⟨bad,dy⟩:∃ z,Hid (((t.st==2)||(decide (0 <= za)||((l.owner==cn) || !sm)))=z):=⟨_,rfl⟩
 have dJ:Hid (jS s ⟨ck,cn,cp,j,cb⟩ t=if bad then 5 else if cf s.ak j cn==4 then 6 else 0):=by
  show _=_
  have e1:(!decide (za < 0))=decide (0 <= za):=by rw [Bool.eq_iff_iff];simp
  unfold jS
  dsimp only
  rw [c1,Hz.out,Hsm.out,e1,Int.toNat_natCast,iP jx,dy.out]
  simp
 obtain ⟨dj,dx,kZ⟩:=et h hl ⟨ck,cn,cp,j,cb⟩
 have C0:Hid (aq _ (w.heap.size+1) (cc ⟨ck,cn,cp,j,cb⟩)):=dx
 have A0:Hid (aQ w lo _ vs _ w.heap.size (w.heap.size+2) _ vs s):=dj
 have HS:Hid (aA _ _ s):=(h.on (by have:=R.small;omega)).keeps kZ
 clear dj dx h
 have TC:∀ w',aa (cO w ⟨⟨some ⟨tb,0,none⟩,tn,ag⟩,⟨some ⟨lb,de,none⟩,ln,ah⟩,⟨ga,gn,ai⟩,⟨fa,fn,aj⟩,⟨ra,rn,ao⟩⟩ s ⟨ck,cn,cp,j,cb⟩) w'->∀ i,i < 14->w'.cell? ⟨tb,k*14+i,none⟩=(tc t)[i]?:=fun w' kk=>T0 w' (kZ.trans kk)
 have LC:∀ w',aa (cO w ⟨⟨some ⟨tb,0,none⟩,tn,ag⟩,⟨some ⟨lb,de,none⟩,ln,ah⟩,⟨ga,gn,ai⟩,⟨fa,fn,aj⟩,⟨ra,rn,ao⟩⟩ s ⟨ck,cn,cp,j,cb⟩) w'->w'.cell? ⟨lb,de+j*2,none⟩=some (.int .i64 l.owner):=fun w' kk=>l0 w' (kZ.trans kk)
 clear T0 l0 l1 hws hwl
 go_enter Tryz.func86,Tryz.ntmps86
 go_wp2_with fail
 change Calls _ _ _ (cO w ⟨⟨some ⟨tb,0,none⟩,tn,ag⟩,⟨some ⟨lb,de,none⟩,ln,ah⟩,⟨ga,gn,ai⟩,⟨fa,fn,aj⟩,⟨ra,rn,ao⟩⟩ s ⟨ck,cn,cp,j,cb⟩) _
 generalize cO w ⟨⟨some ⟨tb,0,none⟩,tn,ag⟩,⟨some ⟨lb,de,none⟩,ln,ah⟩,⟨ga,gn,ai⟩,⟨fa,fn,aj⟩,⟨ra,rn,ao⟩⟩ s ⟨ck,cn,cp,j,cb⟩=Z at *
 have hb0:∀ w',aa Z w'->∀ q,w'.cell? ⟨w.heap.size,q,none⟩=(ae s ⟨⟨some ⟨tb,0,none⟩,tn,ag⟩,⟨some ⟨lb,de,none⟩,ln,ah⟩,⟨ga,gn,ai⟩,⟨fa,fn,aj⟩,⟨ra,rn,ao⟩⟩)[q]?:=fun w' k=>(A0.out.g.var.box.keeps k).cells
 dsimp only [ae] at hb0
 have hc0:∀ w',aa Z w'->∀ q,w'.cell? ⟨w.heap.size+1,q,none⟩=(cc ⟨ck,cn,cp,j,cb⟩)[q]?:=fun w' k=>(C0.out.keeps k).cells
 have WA:Hid (∀ w',aa Z w'->Calls Tryz.prog 84 #[.slice (some ⟨lb,de,none⟩) ln ah,.int .i64 cn] w' fun e w''=>e = .returned (.int .i64 za) /\ aa w' w''):=fun w' kk=>HS.out.gx.eK cn Hz.out kk
 have SC:Hid (∀ w',aa Z w'->Calls Tryz.prog 149 #[.agg (ae s ⟨⟨some ⟨tb,0,none⟩,tn,ag⟩,⟨some ⟨lb,de,none⟩,ln,ah⟩,⟨ga,gn,ai⟩,⟨fa,fn,aj⟩,⟨ra,rn,ao⟩⟩),.int .i64 j,.int .i64 cn] w' fun e w''=>e = .returned (.bool sm) /\ aa w' w''):=fun w' kk=>by
  have:=Cj (HS.out.keeps kk) j cn
  rw [Hsm.out] at this
  exact this
 refine (bq _ _ _ _).mono ?_
 rintro e w' ⟨rfl,hw'⟩
 have hw2:=hw'.symm
 subst hw2
 rw [c1]
 go_upto_region 3 with fail
 go_cut [50] (fun b wx=>b = .bool bad /\ aa Z wx)
 case first =>
  cases d1:(t.st==2)
  rotate_left
  ·have hr:bad=true:=by rw [<- dy.out,d1];rfl
   refine wp_region_held_drew (S:=(fun w'=>aa Z w')) (by kernel_rfl) ?_ (fun hHeld => ?_)
   ·exact (aa.refl Z).drew
   refine ad.go [0,1,2,3,4,5,6,7] ?_
   iterate 8 (refine aM (h := ?_);try simp only [au])
   refine ad.nil ?_
   refine ad.go [8,9,10,11,12,13] ?_
   iterate 6 (refine dK (h := ?_);try simp only [au])
   refine ad.nil ?_
   refine ad.go [14,15] ?_
   iterate 2 (refine aM (h := ?_);try simp only [au])
   refine ad.nil ?_
   refine ad.go [16,17,18,19,20,21,22,23,24,25] ?_
   iterate 10 (refine dK (h := ?_);try simp only [au])
   refine ad.nil ?_
   refine ad.go [26,27] ?_
   iterate 2 (refine aM (h := ?_);try simp only [au])
   refine ad.nil ?_
   refine ad.go [28,29,30,31,32,33,34] ?_
   iterate 7 (refine dK (h := ?_);try simp only [au])
   refine ad.nil ?_
   refine di 35 (h := ?_)
   try simp only [au]
   refine wpAnyH_done (by kernel_rfl) ?_ _
   go_wp2
   go_meet
   exact ⟨by rw [hr],by first | assumption | exact (aa.refl _).drew⟩
  cases d2:decide (0 <= za)
  rotate_left
  ·have hr:bad=true:=by rw [<- dy.out,d1,d2];rfl
   refine wp_region_held_drew (S:=(fun w'=>aa Z w')) (by kernel_rfl) ?_ (fun hHeld => ?_)
   ·exact (aa.refl Z).drew
   refine ad.go [0,1,2,3,4,5,6,7,8,9,10,11] ?_
   iterate 12 (refine aM (h := ?_);try simp only [au])
   refine ad.nil ?_
   refine aR 12 (h:=fun K hK => ?_)
   go_simp
   (go_at_call 84;refine (WA.out _ (by first | assumption | exact aa.refl _ | exact (aa.refl _).drew | exact aa.drew (by assumption))).mono ?_;rintro e w5 ⟨rfl,k5⟩)
   try go_wp2_with fail
   refine hK.out _ _ ?_ fun hHeld => ?_
   ·first | assumption | exact aa.trans (by assumption) (by assumption)
   clear hK K
   try simp only [au]
   refine ad.go [13,14,15] ?_
   iterate 3 (refine aM (h := ?_);try simp only [au])
   refine ad.nil ?_
   refine ad.go [16,17,18,19,20,21,22,23,24,25] ?_
   iterate 10 (refine dK (h := ?_);try simp only [au])
   refine ad.nil ?_
   refine ad.go [26,27] ?_
   iterate 2 (refine aM (h := ?_);try simp only [au])
   refine ad.nil ?_
   refine ad.go [28,29,30,31,32,33,34] ?_
   iterate 7 (refine dK (h := ?_);try simp only [au])
   refine ad.nil ?_
   refine di 35 (h := ?_)
   try simp only [au]
   refine wpAnyH_done (by kernel_rfl) ?_ _
   go_wp2
   go_meet
   exact ⟨by rw [hr],by first | assumption | exact (aa.refl _).drew⟩
  cases d3:(l.owner==cn)
  rotate_left
  ·have hr:bad=true:=by rw [<- dy.out,d1,d2,d3];rfl
   refine wp_region_held_drew (S:=(fun w'=>aa Z w')) (by kernel_rfl) ?_ (fun hHeld => ?_)
   ·exact (aa.refl Z).drew
   refine ad.go [0,1,2,3,4,5,6,7,8,9,10,11] ?_
   iterate 12 (refine aM (h := ?_);try simp only [au])
   refine ad.nil ?_
   refine aR 12 (h:=fun K hK => ?_)
   go_simp
   (go_at_call 84;refine (WA.out _ (by first | assumption | exact aa.refl _ | exact (aa.refl _).drew | exact aa.drew (by assumption))).mono ?_;rintro e w5 ⟨rfl,k5⟩)
   try go_wp2_with fail
   refine hK.out _ _ ?_ fun hHeld => ?_
   ·first | assumption | exact aa.trans (by assumption) (by assumption)
   clear hK K
   try simp only [au]
   refine ad.go [13,14,15,16,17,18,19,20,21,22,23,24,25,26,27] ?_
   iterate 15 (refine aM (h := ?_);try simp only [au])
   refine ad.nil ?_
   refine ad.go [28,29,30,31,32,33,34] ?_
   iterate 7 (refine dK (h := ?_);try simp only [au])
   refine ad.nil ?_
   refine di 35 (h := ?_)
   try simp only [au]
   refine wpAnyH_done (by kernel_rfl) ?_ _
   go_wp2
   go_meet
   exact ⟨by rw [hr],by first | assumption | exact (aa.refl _).drew⟩
  have hr:bad = !sm:=by rw [<- dy.out,d1,d2,d3];rfl
  refine wp_region_held_drew (S:=(fun w'=>aa Z w')) (by kernel_rfl) ?_ (fun hHeld => ?_)
  ·exact (aa.refl Z).drew
  refine ad.go [0,1,2,3,4,5,6,7,8,9,10,11] ?_
  iterate 12 (refine aM (h := ?_);try simp only [au])
  refine ad.nil ?_
  refine aR 12 (h:=fun K hK => ?_)
  go_simp
  first
   | (go_at_call 84;refine (WA.out _ (by first | assumption | exact aa.refl _ | exact (aa.refl _).drew | exact aa.drew (by assumption))).mono ?_;rintro e w5 ⟨rfl,k5⟩)
   | (go_at_call 149;refine (SC.out _ (by first | assumption | exact aa.refl _ | exact (aa.refl _).drew | exact aa.drew (by assumption))).mono ?_;rintro e w6 ⟨rfl,k6⟩)
  try go_wp2_with fail
  refine hK.out _ _ ?_ fun hHeld => ?_
  ·first | assumption | exact aa.trans (by assumption) (by assumption)
  clear hK K
  try simp only [au]
  refine ad.go [13,14,15,16,17,18,19,20,21,22,23,24,25,26,27,28,29,30,31,32] ?_
  iterate 20 (refine aM (h := ?_);try simp only [au])
  refine ad.nil ?_
  refine aR 33 (h:=fun K hK => ?_)
  go_simp
  first
   | (go_at_call 84;refine (WA.out _ (by first | assumption | exact aa.refl _ | exact (aa.refl _).drew | exact aa.drew (by assumption))).mono ?_;rintro e w5 ⟨rfl,k5⟩)
   | (go_at_call 149;refine (SC.out _ (by first | assumption | exact aa.refl _ | exact (aa.refl _).drew | exact aa.drew (by assumption))).mono ?_;rintro e w6 ⟨rfl,k6⟩)
  try go_wp2_with fail
  refine hK.out _ _ ?_ fun hHeld => ?_
  ·first | assumption | exact aa.trans (by assumption) (by assumption)
  clear hK K
  try simp only [au]
  refine ad.go [34,35] ?_
  iterate 2 (refine aM (h := ?_);try simp only [au])
  refine ad.nil ?_
  refine wpAnyH_done (by kernel_rfl) ?_ _
  go_wp2
  go_meet
  exact ⟨by rw [hr],by first | assumption | exact (aa.refl _).drew⟩
 case rest =>
 obtain ⟨rfl,kx⟩:=hcut
 generalize wc=wx at *
 clear WA TC LC dy Hz SC Hsm
 cases bad
 rotate_left
 ·have HN:Hid (jS s ⟨ck,cn,cp,j,cb⟩ t=5):=dJ.out
  have AE:=A0.out.keeps kx
  obtain ⟨_,o1,o2⟩:=AE.g.var.box
  dsimp only [ae] at o1
  obtain ⟨_,r1,r2⟩:=AE.r
  go_wp2
  exact AE.ret HN.out (fun h=>absurd h (by decide)) rfl (fun Q D=>by simp [results,Tryz.results86,go_sem,D])
 have LA:Hid (∀ w',aa Z w'->Calls Tryz.prog 150 #[.slice (some ⟨lb,de,none⟩) ln ah,.int .i64 j,.int .i64 cn] w' fun e w''=>∃ u us,e = .returned (.tuple #[u,.int .i64 (cf s.ak j cn)]) /\ Mine w'' w'.heap.size w''.heap.size u us (bM s.ak j cn) /\ aa w' w''):=fun w' kk=>by
  have O:=HS.out.gx.keeps kk
  have:=vF (some ⟨lb,de,none⟩) ah s.ak j cn w' O.size O.gT
  rw [O.len] at this
  exact this
 obtain ⟨an,sJ⟩:∃ z,Hid (cf s.ak j cn=z):=⟨_,rfl⟩
 rw [sJ.out] at LA
 go_upto_region 6 with (go_at_call 150;refine (LA.out _ kx).mono ?_;rintro e w6 ⟨u6,vG,rfl,M6,k6⟩)
 obtain ⟨a6,c6,e6,-,-⟩:=M6.gT
 obtain ⟨m6,jg⟩:∃ m,Hid ((bM s.ak j cn).length=m):=⟨_,rfl⟩
 rw [jg.out] at e6
 subst e6
 have Ck:Hid (Mine w6 wx.heap.size w6.heap.size (Value.slice a6 m6 c6) vG (bM s.ak j cn)):=M6
 clear M6
 cases d5:(an==4)
 rotate_left
 ·have HN:Hid (jS s ⟨ck,cn,cp,j,cb⟩ t=6):=by show _=_;rw [dJ.out,sJ.out,d5];rfl
  have AE:=A0.out.keeps (kx.trans k6)
  obtain ⟨_,o1,o2⟩:=AE.g.var.box
  dsimp only [ae] at o1
  obtain ⟨_,r1,r2⟩:=AE.r
  go_wp2
  exact AE.ret HN.out (fun h=>absurd h (by decide)) rfl (fun Q D=>by simp [results,Tryz.results86,go_sem,D])
 have HN:Hid (jS s ⟨ck,cn,cp,j,cb⟩ t=0):=by show _=_;rw [dJ.out,sJ.out,d5];rfl
 have AN:Hid (aQ w lo ⟨⟨some ⟨tb,0,none⟩,tn,ag⟩,⟨some ⟨lb,de,none⟩,ln,ah⟩,⟨ga,gn,ai⟩,⟨fa,fn,aj⟩,⟨ra,rn,ao⟩⟩ vs (w6.setCell ⟨w.heap.size,3,none⟩ (.slice a6 m6 c6)) w.heap.size (w.heap.size+2) ⟨⟨some ⟨tb,0,none⟩,tn,ag⟩,⟨a6,m6,c6⟩,⟨ga,gn,ai⟩,⟨fa,fn,aj⟩,⟨ra,rn,ao⟩⟩ vG { (s:Sy) with ak:=bM s.ak j cn }):=(A0.out.keeps kx).ak k6 (x:=⟨a6,m6,c6⟩) Ck.out
 obtain ⟨_,p1,p2⟩:=(A0.out.keeps (kx.trans k6)).g.var.box
 obtain ⟨_,q1,q2⟩:=(A0.out.keeps (kx.trans k6)).r
 dsimp only [ae] at p1
 have hsz:w.heap.size+2≠w.heap.size:=by omega
 have AE:=AN.out
 obtain ⟨_,o1,o2⟩:=AE.g.var.box
 dsimp only [ae] at o1
 obtain ⟨_,r1,r2⟩:=AE.r
 go_wp2
 exact AE.ret HN.out (fun _=>rfl) rfl (fun Q D=>by simp [results,Tryz.results86,go_sem,D])
end Go.Proofs.YteagpjlgjfaclaaGreatDoor
