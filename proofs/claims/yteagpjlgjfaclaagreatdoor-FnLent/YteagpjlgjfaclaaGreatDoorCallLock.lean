/-
  Calls: a lock is asked for.
  Calls: a lock is freed.
-/
import Derived.Test.YteagpjlgjfaclaaGreatDoorSysNewS
import Derived.Test.YteagpjlgjfaclaaGreatDoorLoneLeaves
import Derived.Test.YteagpjlgjfaclaaGreatDoorPickPure
import Derived.Test.YteagpjlgjfaclaaGreatDoorLockSpec2
import Derived.Deep.Cut
import Derived.Test.YteagpjlgjfaclaaGreatDoorSysShares
import Derived.Test.YteagpjlgjfaclaaGreatDoorDrawTask2
namespace Go.Proofs.YteagpjlgjfaclaaGreatDoor
set_option maxRecDepth 100000
open Go.RowKit
attribute [local go_sem] aa.refl aa.alloc aa.drew aa.drewN
set_option linter.unusedSimpArgs false in
set_option maxHeartbeats 8000000 in
theorem FG {w:World} {lo:Nat} {v:Sv} {vs:List Lv} {s:Sy} (h:ay w lo v vs s) (hl:lo <= w.heap.size) (R:cV s) (c:Cl) {k:Nat} {t:ag} (ht:s.tasks[k]?=some t) :
  Calls Tryz.prog 86 #[.agg (ae s v),ck c,.int .i64 k] w (fL w lo v vs (kV s c t) (uT s c)):=by
 obtain ⟨⟨ta,tn,ak⟩,⟨la,ln,aj⟩,⟨ga,gn,ao⟩,⟨fa,fn,aq⟩,⟨ra,rn,au⟩⟩:=v
 have hk:k < s.tasks.length:=da ht
 obtain ⟨tb,htb⟩:=h.bm hk
 dsimp only at htb
 subst htb
 cases c1:aF c.a 0 4
 ·have HN:Hid (kV s c t=2):=by show _=_;unfold kV;rw [c1];rfl
  obtain ⟨dG,dO,kZ⟩:=eU h hl c
  have C0:Hid (ai _ (w.heap.size+1) (cc c)):=dO
  have A0:Hid (aR w lo _ vs _ w.heap.size (w.heap.size+2) _ vs s):=dG
  have HS:Hid (aA _ _ s):=(h.on (by have:=R.small;omega)).keeps kZ
  clear dG dO h
  go_enter Tryz.func86,Tryz.ntmps86
  go_wp2_with fail
  change Calls _ _ _ (du w ⟨⟨some ⟨tb,0,none⟩,tn,ak⟩,⟨la,ln,aj⟩,⟨ga,gn,ao⟩,⟨fa,fn,aq⟩,⟨ra,rn,au⟩⟩ s c) _
  generalize du w ⟨⟨some ⟨tb,0,none⟩,tn,ak⟩,⟨la,ln,aj⟩,⟨ga,gn,ao⟩,⟨fa,fn,aq⟩,⟨ra,rn,au⟩⟩ s c=Z at *
  have hb0:∀ w',aa Z w'->∀ q,w'.cell? ⟨w.heap.size,q,none⟩=(ae s ⟨⟨some ⟨tb,0,none⟩,tn,ak⟩,⟨la,ln,aj⟩,⟨ga,gn,ao⟩,⟨fa,fn,aq⟩,⟨ra,rn,au⟩⟩)[q]?:=fun w' k=>(A0.out.g.var.box.keeps k).cells
  dsimp only [ae] at hb0
  have hc0:∀ w',aa Z w'->∀ q,w'.cell? ⟨w.heap.size+1,q,none⟩=(cc c)[q]?:=fun w' k=>(C0.out.keeps k).cells
  refine (bn _ _ _ _).mono ?_
  rintro e w' ⟨rfl,hw'⟩
  have hw2:=hw'.symm
  subst hw2
  rw [c1]
  have AE:=A0.out
  obtain ⟨_,o1,o2⟩:=AE.g.var.box
  dsimp only [ae] at o1
  obtain ⟨_,r1,r2⟩:=AE.r
  go_wp2
  exact AE.ret HN.out (fun h=>absurd h (by decide)) rfl (fun Q D=>by simp [results,Tryz.results86,go_sem,D])
 obtain ⟨ha0,ha1⟩:=dq.1 c1
 obtain ⟨ck,cn,cp,ca,cb⟩:=c
 dsimp only at ha0 ha1 c1
 obtain ⟨j,rfl⟩:∃ j:Nat,ca=(j:Int):=⟨ca.toNat,by omega⟩
 obtain ⟨l,g9⟩:=bW (xs:=s.af) (k:=j) (by rw [R.five];omega)
 have ON:=h.on (by have:=R.small;omega)
 obtain ⟨hjn,lb,cd,a',cap',ha,l0,l1,hwl,hws⟩:=ON.gL.at g9
 dsimp only at ha
 subst ha
 have hkn:(k:Int) < (tn:Int):=by have:=ON.lay.tl;dsimp only at this;omega
 have uU:(j:Int) < (ln:Int):=by dsimp only at hjn;omega
 have T0:∀ w',aa w w'->∀ i,i < 14->w'.cell? ⟨tb,k*14+i,none⟩=(tc t)[i]?:=fun w' kk i hi=>(kk.cells tb _ (h.aG (i:=0) (b:=tb) rfl).2).trans ((h.aI (rb:=tb) rfl ht).1 i hi)
 clear ON
 obtain ⟨za,Hz⟩:∃ z,Hid (d8 s.af cn=z):=⟨_,rfl⟩
 obtain ⟨sm,Hsm⟩:∃ z,Hid (eS s j cn=z):=⟨_,rfl⟩
 obtain ⟨bad,dN⟩:∃ z,Hid (((t.st==2)||(decide (0 <= za)||((l.owner==cn) || !sm)))=z):=⟨_,rfl⟩
 have ee:Hid (kV s ⟨ck,cn,cp,j,cb⟩ t=if bad then 5 else if cl s.af j cn==4 then 6 else 0):=by
  show _=_
  have e1:(!decide (za < 0))=decide (0 <= za):=by rw [Bool.eq_iff_iff];simp
  unfold kV
  dsimp only
  rw [c1,Hz.out,Hsm.out,e1,Int.toNat_natCast,gO g9,dN.out]
  simp
 obtain ⟨dG,dO,kZ⟩:=eU h hl ⟨ck,cn,cp,j,cb⟩
 have C0:Hid (ai _ (w.heap.size+1) (cc ⟨ck,cn,cp,j,cb⟩)):=dO
 have A0:Hid (aR w lo _ vs _ w.heap.size (w.heap.size+2) _ vs s):=dG
 have HS:Hid (aA _ _ s):=(h.on (by have:=R.small;omega)).keeps kZ
 clear dG dO h
 have TC:∀ w',aa (du w ⟨⟨some ⟨tb,0,none⟩,tn,ak⟩,⟨some ⟨lb,cd,none⟩,ln,aj⟩,⟨ga,gn,ao⟩,⟨fa,fn,aq⟩,⟨ra,rn,au⟩⟩ s ⟨ck,cn,cp,j,cb⟩) w'->∀ i,i < 14->w'.cell? ⟨tb,k*14+i,none⟩=(tc t)[i]?:=fun w' kk=>T0 w' (kZ.trans kk)
 have LC:∀ w',aa (du w ⟨⟨some ⟨tb,0,none⟩,tn,ak⟩,⟨some ⟨lb,cd,none⟩,ln,aj⟩,⟨ga,gn,ao⟩,⟨fa,fn,aq⟩,⟨ra,rn,au⟩⟩ s ⟨ck,cn,cp,j,cb⟩) w'->w'.cell? ⟨lb,cd+j*2,none⟩=some (.int .i64 l.owner):=fun w' kk=>l0 w' (kZ.trans kk)
 clear T0 l0 l1 hws hwl
 go_enter Tryz.func86,Tryz.ntmps86
 go_wp2_with fail
 change Calls _ _ _ (du w ⟨⟨some ⟨tb,0,none⟩,tn,ak⟩,⟨some ⟨lb,cd,none⟩,ln,aj⟩,⟨ga,gn,ao⟩,⟨fa,fn,aq⟩,⟨ra,rn,au⟩⟩ s ⟨ck,cn,cp,j,cb⟩) _
 generalize du w ⟨⟨some ⟨tb,0,none⟩,tn,ak⟩,⟨some ⟨lb,cd,none⟩,ln,aj⟩,⟨ga,gn,ao⟩,⟨fa,fn,aq⟩,⟨ra,rn,au⟩⟩ s ⟨ck,cn,cp,j,cb⟩=Z at *
 have hb0:∀ w',aa Z w'->∀ q,w'.cell? ⟨w.heap.size,q,none⟩=(ae s ⟨⟨some ⟨tb,0,none⟩,tn,ak⟩,⟨some ⟨lb,cd,none⟩,ln,aj⟩,⟨ga,gn,ao⟩,⟨fa,fn,aq⟩,⟨ra,rn,au⟩⟩)[q]?:=fun w' k=>(A0.out.g.var.box.keeps k).cells
 dsimp only [ae] at hb0
 have hc0:∀ w',aa Z w'->∀ q,w'.cell? ⟨w.heap.size+1,q,none⟩=(cc ⟨ck,cn,cp,j,cb⟩)[q]?:=fun w' k=>(C0.out.keeps k).cells
 have WA:Hid (∀ w',aa Z w'->Calls Tryz.prog 84 #[.slice (some ⟨lb,cd,none⟩) ln aj,.int .i64 cn] w' fun e w''=>e = .returned (.int .i64 za) /\ aa w' w''):=fun w' kk=>HS.out.gL.fv cn Hz.out kk
 have SC:Hid (∀ w',aa Z w'->Calls Tryz.prog 149 #[.agg (ae s ⟨⟨some ⟨tb,0,none⟩,tn,ak⟩,⟨some ⟨lb,cd,none⟩,ln,aj⟩,⟨ga,gn,ao⟩,⟨fa,fn,aq⟩,⟨ra,rn,au⟩⟩),.int .i64 j,.int .i64 cn] w' fun e w''=>e = .returned (.bool sm) /\ aa w' w''):=fun w' kk=>by
  have:=FM (HS.out.keeps kk) j cn
  rw [Hsm.out] at this
  exact this
 refine (bn _ _ _ _).mono ?_
 rintro e w' ⟨rfl,hw'⟩
 have hw2:=hw'.symm
 subst hw2
 rw [c1]
 go_upto_region 3 with fail
 go_cut [50] (fun b wx=>b = .bool bad /\ aa Z wx)
 case first =>
  cases d1:(t.st==2)
  rotate_left
  ·have hr:bad=true:=by rw [<- dN.out,d1];rfl
   refine wp_region_held_drew (S:=(fun w'=>aa Z w')) (by kernel_rfl) ?_ (fun hHeld => ?_)
   ·exact (aa.refl Z).drew
   refine ad.go [0,1,2,3,4,5,6,7] ?_
   iterate 8 (refine aJ (h := ?_);try simp only [ar])
   refine ad.nil ?_
   refine ad.go [8,9,10,11,12,13] ?_
   iterate 6 (refine dB (h := ?_);try simp only [ar])
   refine ad.nil ?_
   refine ad.go [14,15] ?_
   iterate 2 (refine aJ (h := ?_);try simp only [ar])
   refine ad.nil ?_
   refine ad.go [16,17,18,19,20,21,22,23,24,25] ?_
   iterate 10 (refine dB (h := ?_);try simp only [ar])
   refine ad.nil ?_
   refine ad.go [26,27] ?_
   iterate 2 (refine aJ (h := ?_);try simp only [ar])
   refine ad.nil ?_
   refine ad.go [28,29,30,31,32,33,34] ?_
   iterate 7 (refine dB (h := ?_);try simp only [ar])
   refine ad.nil ?_
   refine cU 35 (h := ?_)
   try simp only [ar]
   refine wpAnyH_done (by kernel_rfl) ?_ _
   go_wp2
   go_meet
   exact ⟨by rw [hr],by first | assumption | exact (aa.refl _).drew⟩
  cases d2:decide (0 <= za)
  rotate_left
  ·have hr:bad=true:=by rw [<- dN.out,d1,d2];rfl
   refine wp_region_held_drew (S:=(fun w'=>aa Z w')) (by kernel_rfl) ?_ (fun hHeld => ?_)
   ·exact (aa.refl Z).drew
   refine ad.go [0,1,2,3,4,5,6,7,8,9,10,11] ?_
   iterate 12 (refine aJ (h := ?_);try simp only [ar])
   refine ad.nil ?_
   refine aO 12 (h:=fun K hK => ?_)
   go_simp
   (go_at_call 84;refine (WA.out _ (by first | assumption | exact aa.refl _ | exact (aa.refl _).drew | exact aa.drew (by assumption))).mono ?_;rintro e w5 ⟨rfl,k5⟩)
   try go_wp2_with fail
   refine hK.out _ _ ?_ fun hHeld => ?_
   ·first | assumption | exact aa.trans (by assumption) (by assumption)
   clear hK K
   try simp only [ar]
   refine ad.go [13,14,15] ?_
   iterate 3 (refine aJ (h := ?_);try simp only [ar])
   refine ad.nil ?_
   refine ad.go [16,17,18,19,20,21,22,23,24,25] ?_
   iterate 10 (refine dB (h := ?_);try simp only [ar])
   refine ad.nil ?_
   refine ad.go [26,27] ?_
   iterate 2 (refine aJ (h := ?_);try simp only [ar])
   refine ad.nil ?_
   refine ad.go [28,29,30,31,32,33,34] ?_
   iterate 7 (refine dB (h := ?_);try simp only [ar])
   refine ad.nil ?_
   refine cU 35 (h := ?_)
   try simp only [ar]
   refine wpAnyH_done (by kernel_rfl) ?_ _
   go_wp2
   go_meet
   exact ⟨by rw [hr],by first | assumption | exact (aa.refl _).drew⟩
  cases d3:(l.owner==cn)
  rotate_left
  ·have hr:bad=true:=by rw [<- dN.out,d1,d2,d3];rfl
   refine wp_region_held_drew (S:=(fun w'=>aa Z w')) (by kernel_rfl) ?_ (fun hHeld => ?_)
   ·exact (aa.refl Z).drew
   refine ad.go [0,1,2,3,4,5,6,7,8,9,10,11] ?_
   iterate 12 (refine aJ (h := ?_);try simp only [ar])
   refine ad.nil ?_
   refine aO 12 (h:=fun K hK => ?_)
   go_simp
   (go_at_call 84;refine (WA.out _ (by first | assumption | exact aa.refl _ | exact (aa.refl _).drew | exact aa.drew (by assumption))).mono ?_;rintro e w5 ⟨rfl,k5⟩)
   try go_wp2_with fail
   refine hK.out _ _ ?_ fun hHeld => ?_
   ·first | assumption | exact aa.trans (by assumption) (by assumption)
   clear hK K
   try simp only [ar]
   refine ad.go [13,14,15,16,17,18,19,20,21,22,23,24,25,26,27] ?_
   iterate 15 (refine aJ (h := ?_);try simp only [ar])
   refine ad.nil ?_
   refine ad.go [28,29,30,31,32,33,34] ?_
   iterate 7 (refine dB (h := ?_);try simp only [ar])
   refine ad.nil ?_
   refine cU 35 (h := ?_)
   try simp only [ar]
   refine wpAnyH_done (by kernel_rfl) ?_ _
   go_wp2
   go_meet
   exact ⟨by rw [hr],by first | assumption | exact (aa.refl _).drew⟩
  have hr:bad = !sm:=by rw [<- dN.out,d1,d2,d3];rfl
  refine wp_region_held_drew (S:=(fun w'=>aa Z w')) (by kernel_rfl) ?_ (fun hHeld => ?_)
  ·exact (aa.refl Z).drew
  refine ad.go [0,1,2,3,4,5,6,7,8,9,10,11] ?_
  iterate 12 (refine aJ (h := ?_);try simp only [ar])
  refine ad.nil ?_
  refine aO 12 (h:=fun K hK => ?_)
  go_simp
  first
   | (go_at_call 84;refine (WA.out _ (by first | assumption | exact aa.refl _ | exact (aa.refl _).drew | exact aa.drew (by assumption))).mono ?_;rintro e w5 ⟨rfl,k5⟩)
   | (go_at_call 149;refine (SC.out _ (by first | assumption | exact aa.refl _ | exact (aa.refl _).drew | exact aa.drew (by assumption))).mono ?_;rintro e w6 ⟨rfl,k6⟩)
  try go_wp2_with fail
  refine hK.out _ _ ?_ fun hHeld => ?_
  ·first | assumption | exact aa.trans (by assumption) (by assumption)
  clear hK K
  try simp only [ar]
  refine ad.go [13,14,15,16,17,18,19,20,21,22,23,24,25,26,27,28,29,30,31,32] ?_
  iterate 20 (refine aJ (h := ?_);try simp only [ar])
  refine ad.nil ?_
  refine aO 33 (h:=fun K hK => ?_)
  go_simp
  first
   | (go_at_call 84;refine (WA.out _ (by first | assumption | exact aa.refl _ | exact (aa.refl _).drew | exact aa.drew (by assumption))).mono ?_;rintro e w5 ⟨rfl,k5⟩)
   | (go_at_call 149;refine (SC.out _ (by first | assumption | exact aa.refl _ | exact (aa.refl _).drew | exact aa.drew (by assumption))).mono ?_;rintro e w6 ⟨rfl,k6⟩)
  try go_wp2_with fail
  refine hK.out _ _ ?_ fun hHeld => ?_
  ·first | assumption | exact aa.trans (by assumption) (by assumption)
  clear hK K
  try simp only [ar]
  refine ad.go [34,35] ?_
  iterate 2 (refine aJ (h := ?_);try simp only [ar])
  refine ad.nil ?_
  refine wpAnyH_done (by kernel_rfl) ?_ _
  go_wp2
  go_meet
  exact ⟨by rw [hr],by first | assumption | exact (aa.refl _).drew⟩
 case rest =>
 obtain ⟨rfl,kx⟩:=hcut
 generalize wc=wx at *
 clear WA TC LC dN Hz SC Hsm
 cases bad
 rotate_left
 ·have HN:Hid (kV s ⟨ck,cn,cp,j,cb⟩ t=5):=ee.out
  have AE:=A0.out.keeps kx
  obtain ⟨_,o1,o2⟩:=AE.g.var.box
  dsimp only [ae] at o1
  obtain ⟨_,r1,r2⟩:=AE.r
  go_wp2
  exact AE.ret HN.out (fun h=>absurd h (by decide)) rfl (fun Q D=>by simp [results,Tryz.results86,go_sem,D])
 have LA:Hid (∀ w',aa Z w'->Calls Tryz.prog 150 #[.slice (some ⟨lb,cd,none⟩) ln aj,.int .i64 j,.int .i64 cn] w' fun e w''=>∃ u us,e = .returned (.tuple #[u,.int .i64 (cl s.af j cn)]) /\ Mine w'' w'.heap.size w''.heap.size u us (bX s.af j cn) /\ aa w' w''):=fun w' kk=>by
  have O:=HS.out.gL.keeps kk
  have:=zb (some ⟨lb,cd,none⟩) aj s.af j cn w' O.size O.gP
  rw [O.len] at this
  exact this
 obtain ⟨an,uV⟩:∃ z,Hid (cl s.af j cn=z):=⟨_,rfl⟩
 rw [uV.out] at LA
 go_upto_region 6 with (go_at_call 150;refine (LA.out _ kx).mono ?_;rintro e w6 ⟨u6,zd,rfl,M6,k6⟩)
 obtain ⟨a6,c6,e6,-,-⟩:=M6.gP
 obtain ⟨m6,jV⟩:∃ m,Hid ((bX s.af j cn).length=m):=⟨_,rfl⟩
 rw [jV.out] at e6
 subst e6
 have FO:Hid (Mine w6 wx.heap.size w6.heap.size (Value.slice a6 m6 c6) zd (bX s.af j cn)):=M6
 clear M6
 cases d5:(an==4)
 rotate_left
 ·have HN:Hid (kV s ⟨ck,cn,cp,j,cb⟩ t=6):=by show _=_;rw [ee.out,uV.out,d5];rfl
  have AE:=A0.out.keeps (kx.trans k6)
  obtain ⟨_,o1,o2⟩:=AE.g.var.box
  dsimp only [ae] at o1
  obtain ⟨_,r1,r2⟩:=AE.r
  go_wp2
  exact AE.ret HN.out (fun h=>absurd h (by decide)) rfl (fun Q D=>by simp [results,Tryz.results86,go_sem,D])
 have HN:Hid (kV s ⟨ck,cn,cp,j,cb⟩ t=0):=by show _=_;rw [ee.out,uV.out,d5];rfl
 have AN:Hid (aR w lo ⟨⟨some ⟨tb,0,none⟩,tn,ak⟩,⟨some ⟨lb,cd,none⟩,ln,aj⟩,⟨ga,gn,ao⟩,⟨fa,fn,aq⟩,⟨ra,rn,au⟩⟩ vs (w6.setCell ⟨w.heap.size,3,none⟩ (.slice a6 m6 c6)) w.heap.size (w.heap.size+2) ⟨⟨some ⟨tb,0,none⟩,tn,ak⟩,⟨a6,m6,c6⟩,⟨ga,gn,ao⟩,⟨fa,fn,aq⟩,⟨ra,rn,au⟩⟩ zd { (s:Sy) with af:=bX s.af j cn }):=(A0.out.keeps kx).af k6 (x:=⟨a6,m6,c6⟩) FO.out
 obtain ⟨_,p1,p2⟩:=(A0.out.keeps (kx.trans k6)).g.var.box
 obtain ⟨_,q1,q2⟩:=(A0.out.keeps (kx.trans k6)).r
 dsimp only [ae] at p1
 have hsz:w.heap.size+2≠w.heap.size:=by omega
 have AE:=AN.out
 obtain ⟨_,o1,o2⟩:=AE.g.var.box
 dsimp only [ae] at o1
 obtain ⟨_,r1,r2⟩:=AE.r
 go_wp2
 exact AE.ret HN.out (fun _=>rfl) rfl (fun Q D=>by simp [results,Tryz.results86,go_sem,D])
set_option linter.unusedSimpArgs false in
set_option maxHeartbeats 8000000 in
theorem FI {w:World} {lo:Nat} {v:Sv} {vs:List Lv} {s:Sy} (h:ay w lo v vs s) (hl:lo <= w.heap.size) (R:cV s) (c:Cl) {k:Nat} {t:ag} (ht:s.tasks[k]?=some t) :
  Calls Tryz.prog 87 #[.agg (ae s v),ck c,.int .i64 k] w (fL w lo v vs (je s c t) (jX s c)):=by
 obtain ⟨⟨ta,tn,ak⟩,⟨la,ln,aj⟩,⟨ga,gn,ao⟩,⟨fa,fn,aq⟩,⟨ra,rn,au⟩⟩:=v
 have hk:k < s.tasks.length:=da ht
 obtain ⟨tb,htb⟩:=h.bm hk
 dsimp only at htb
 subst htb
 cases c1:aF c.a 0 4
 ·have HN:Hid (je s c t=2):=by show _=_;unfold je;rw [c1];rfl
  obtain ⟨dG,dO,kZ⟩:=eU h hl c
  have C0:Hid (ai _ (w.heap.size+1) (cc c)):=dO
  have A0:Hid (aR w lo _ vs _ w.heap.size (w.heap.size+2) _ vs s):=dG
  have HS:Hid (aA _ _ s):=(h.on (by have:=R.small;omega)).keeps kZ
  clear dG dO h
  go_enter Tryz.func87,Tryz.ntmps87
  go_wp2_with fail
  change Calls _ _ _ (du w ⟨⟨some ⟨tb,0,none⟩,tn,ak⟩,⟨la,ln,aj⟩,⟨ga,gn,ao⟩,⟨fa,fn,aq⟩,⟨ra,rn,au⟩⟩ s c) _
  generalize du w ⟨⟨some ⟨tb,0,none⟩,tn,ak⟩,⟨la,ln,aj⟩,⟨ga,gn,ao⟩,⟨fa,fn,aq⟩,⟨ra,rn,au⟩⟩ s c=Z at *
  have hb0:∀ w',aa Z w'->∀ q,w'.cell? ⟨w.heap.size,q,none⟩=(ae s ⟨⟨some ⟨tb,0,none⟩,tn,ak⟩,⟨la,ln,aj⟩,⟨ga,gn,ao⟩,⟨fa,fn,aq⟩,⟨ra,rn,au⟩⟩)[q]?:=fun w' k=>(A0.out.g.var.box.keeps k).cells
  dsimp only [ae] at hb0
  have hc0:∀ w',aa Z w'->∀ q,w'.cell? ⟨w.heap.size+1,q,none⟩=(cc c)[q]?:=fun w' k=>(C0.out.keeps k).cells
  refine (bn _ _ _ _).mono ?_
  rintro e w' ⟨rfl,hw'⟩
  have hw2:=hw'.symm
  subst hw2
  rw [c1]
  have AE:=A0.out
  obtain ⟨_,o1,o2⟩:=AE.g.var.box
  dsimp only [ae] at o1
  obtain ⟨_,r1,r2⟩:=AE.r
  go_wp2
  exact AE.ret HN.out (fun h=>absurd h (by decide)) rfl (fun Q D=>by simp [results,Tryz.results87,go_sem,D])
 obtain ⟨ha0,ha1⟩:=dq.1 c1
 obtain ⟨ck,cn,cp,ca,cb⟩:=c
 dsimp only at ha0 ha1 c1
 obtain ⟨j,rfl⟩:∃ j:Nat,ca=(j:Int):=⟨ca.toNat,by omega⟩
 obtain ⟨l,g9⟩:=bW (xs:=s.af) (k:=j) (by rw [R.five];omega)
 have ON:=h.on (by have:=R.small;omega)
 obtain ⟨hjn,lb,cd,a',cap',ha,l0,l1,hwl,hws⟩:=ON.gL.at g9
 dsimp only at ha
 subst ha
 have hkn:(k:Int) < (tn:Int):=by have:=ON.lay.tl;dsimp only at this;omega
 have uU:(j:Int) < (ln:Int):=by dsimp only at hjn;omega
 have T0:∀ w',aa w w'->∀ i,i < 14->w'.cell? ⟨tb,k*14+i,none⟩=(tc t)[i]?:=fun w' kk i hi=>(kk.cells tb _ (h.aG (i:=0) (b:=tb) rfl).2).trans ((h.aI (rb:=tb) rfl ht).1 i hi)
 clear ON
 obtain ⟨za,Hz⟩:∃ z,Hid (d8 s.af cn=z):=⟨_,rfl⟩
 obtain ⟨bad,dN⟩:∃ z,Hid (((t.st==2)||(decide (0 <= za)||(l.owner != cn)))=z):=⟨_,rfl⟩
 obtain ⟨bi,mu⟩:∃ z,Hid (eO s.tasks l.waits=z):=⟨_,rfl⟩
 have ee:Hid (je s ⟨ck,cn,cp,j,cb⟩ t=if bad then 5 else 0):=by
  show _=_
  have e1:(!decide (za < 0))=decide (0 <= za):=by rw [Bool.eq_iff_iff];simp
  unfold je
  dsimp only
  rw [c1,Hz.out,e1,Int.toNat_natCast,gO g9,dN.out]
  simp
 have mq:Hid (jX s ⟨ck,cn,cp,j,cb⟩={ s with af:=dV s.af j cn bi }):=by
  show _=_
  unfold jX
  dsimp only
  rw [Int.toNat_natCast,qL g9,mu.out]
 obtain ⟨dG,dO,kZ⟩:=eU h hl ⟨ck,cn,cp,j,cb⟩
 have C0:Hid (ai _ (w.heap.size+1) (cc ⟨ck,cn,cp,j,cb⟩)):=dO
 have A0:Hid (aR w lo _ vs _ w.heap.size (w.heap.size+2) _ vs s):=dG
 have HS:Hid (aA _ _ s):=(h.on (by have:=R.small;omega)).keeps kZ
 clear dG dO h
 have TC:∀ w',aa (du w ⟨⟨some ⟨tb,0,none⟩,tn,ak⟩,⟨some ⟨lb,cd,none⟩,ln,aj⟩,⟨ga,gn,ao⟩,⟨fa,fn,aq⟩,⟨ra,rn,au⟩⟩ s ⟨ck,cn,cp,j,cb⟩) w'->∀ i,i < 14->w'.cell? ⟨tb,k*14+i,none⟩=(tc t)[i]?:=fun w' kk=>T0 w' (kZ.trans kk)
 have LC:∀ w',aa (du w ⟨⟨some ⟨tb,0,none⟩,tn,ak⟩,⟨some ⟨lb,cd,none⟩,ln,aj⟩,⟨ga,gn,ao⟩,⟨fa,fn,aq⟩,⟨ra,rn,au⟩⟩ s ⟨ck,cn,cp,j,cb⟩) w'->w'.cell? ⟨lb,cd+j*2,none⟩=some (.int .i64 l.owner):=fun w' kk=>l0 w' (kZ.trans kk)
 have LW:∀ w',aa (du w ⟨⟨some ⟨tb,0,none⟩,tn,ak⟩,⟨some ⟨lb,cd,none⟩,ln,aj⟩,⟨ga,gn,ao⟩,⟨fa,fn,aq⟩,⟨ra,rn,au⟩⟩ s ⟨ck,cn,cp,j,cb⟩) w'->w'.cell? ⟨lb,cd+j*2+1,none⟩=some (.slice a' l.waits.length cap'):=fun w' kk=>l1 w' (kZ.trans kk)
 have HW:Hid (Ns (du w ⟨⟨some ⟨tb,0,none⟩,tn,ak⟩,⟨some ⟨lb,cd,none⟩,ln,aj⟩,⟨ga,gn,ao⟩,⟨fa,fn,aq⟩,⟨ra,rn,au⟩⟩ s ⟨ck,cn,cp,j,cb⟩) a' l.waits):=hws.keeps kZ
 have FP:Hid (l.waits.length <= maxLen):=hwl
 clear T0 l0 l1 hws hwl
 go_enter Tryz.func87,Tryz.ntmps87
 go_wp2_with fail
 change Calls _ _ _ (du w ⟨⟨some ⟨tb,0,none⟩,tn,ak⟩,⟨some ⟨lb,cd,none⟩,ln,aj⟩,⟨ga,gn,ao⟩,⟨fa,fn,aq⟩,⟨ra,rn,au⟩⟩ s ⟨ck,cn,cp,j,cb⟩) _
 generalize du w ⟨⟨some ⟨tb,0,none⟩,tn,ak⟩,⟨some ⟨lb,cd,none⟩,ln,aj⟩,⟨ga,gn,ao⟩,⟨fa,fn,aq⟩,⟨ra,rn,au⟩⟩ s ⟨ck,cn,cp,j,cb⟩=Z at *
 have hb0:∀ w',aa Z w'->∀ q,w'.cell? ⟨w.heap.size,q,none⟩=(ae s ⟨⟨some ⟨tb,0,none⟩,tn,ak⟩,⟨some ⟨lb,cd,none⟩,ln,aj⟩,⟨ga,gn,ao⟩,⟨fa,fn,aq⟩,⟨ra,rn,au⟩⟩)[q]?:=fun w' k=>(A0.out.g.var.box.keeps k).cells
 dsimp only [ae] at hb0
 have hc0:∀ w',aa Z w'->∀ q,w'.cell? ⟨w.heap.size+1,q,none⟩=(cc ⟨ck,cn,cp,j,cb⟩)[q]?:=fun w' k=>(C0.out.keeps k).cells
 have WA:Hid (∀ w',aa Z w'->Calls Tryz.prog 84 #[.slice (some ⟨lb,cd,none⟩) ln aj,.int .i64 cn] w' fun e w''=>e = .returned (.int .i64 za) /\ aa w' w''):=fun w' kk=>HS.out.gL.fv cn Hz.out kk
 refine (bn _ _ _ _).mono ?_
 rintro e w' ⟨rfl,hw'⟩
 have hw2:=hw'.symm
 subst hw2
 rw [c1]
 go_upto_region 3 with fail
 go_cut [39] (fun b wx=>b = .bool bad /\ aa Z wx)
 case first =>
  cases d1:(t.st==2)
  rotate_left
  ·have hr:bad=true:=by rw [<- dN.out,d1];rfl
   refine wp_region_held_drew (S:=(fun w'=>aa Z w')) (by kernel_rfl) ?_ (fun hHeld => ?_)
   ·exact (aa.refl Z).drew
   refine ad.go [0,1,2,3,4,5,6,7] ?_
   iterate 8 (refine aJ (h := ?_);try simp only [ar])
   refine ad.nil ?_
   refine ad.go [8,9,10,11,12,13] ?_
   iterate 6 (refine dB (h := ?_);try simp only [ar])
   refine ad.nil ?_
   refine ad.go [14,15] ?_
   iterate 2 (refine aJ (h := ?_);try simp only [ar])
   refine ad.nil ?_
   refine ad.go [16,17,18,19,20,21,22,23,24,25] ?_
   iterate 10 (refine dB (h := ?_);try simp only [ar])
   refine ad.nil ?_
   refine cU 26 (h := ?_)
   try simp only [ar]
   refine wpAnyH_done (by kernel_rfl) ?_ _
   go_wp2
   go_meet
   exact ⟨by rw [hr],by first | assumption | exact (aa.refl _).drew⟩
  cases d2:decide (0 <= za)
  rotate_left
  ·have hr:bad=true:=by rw [<- dN.out,d1,d2];rfl
   refine wp_region_held_drew (S:=(fun w'=>aa Z w')) (by kernel_rfl) ?_ (fun hHeld => ?_)
   ·exact (aa.refl Z).drew
   refine ad.go [0,1,2,3,4,5,6,7,8,9,10,11] ?_
   iterate 12 (refine aJ (h := ?_);try simp only [ar])
   refine ad.nil ?_
   refine aO 12 (h:=fun K hK => ?_)
   go_simp
   (go_at_call 84;refine (WA.out _ (by first | assumption | exact aa.refl _ | exact (aa.refl _).drew | exact aa.drew (by assumption))).mono ?_;rintro e w5 ⟨rfl,k5⟩)
   try go_wp2_with fail
   refine hK.out _ _ ?_ fun hHeld => ?_
   ·first | assumption | exact aa.trans (by assumption) (by assumption)
   clear hK K
   try simp only [ar]
   refine ad.go [13,14,15] ?_
   iterate 3 (refine aJ (h := ?_);try simp only [ar])
   refine ad.nil ?_
   refine ad.go [16,17,18,19,20,21,22,23,24,25] ?_
   iterate 10 (refine dB (h := ?_);try simp only [ar])
   refine ad.nil ?_
   refine cU 26 (h := ?_)
   try simp only [ar]
   refine wpAnyH_done (by kernel_rfl) ?_ _
   go_wp2
   go_meet
   exact ⟨by rw [hr],by first | assumption | exact (aa.refl _).drew⟩
  have hr:bad=(l.owner != cn):=by rw [<- dN.out,d1,d2];rfl
  refine wp_region_held_drew (S:=(fun w'=>aa Z w')) (by kernel_rfl) ?_ (fun hHeld => ?_)
  ·exact (aa.refl Z).drew
  refine ad.go [0,1,2,3,4,5,6,7,8,9,10,11] ?_
  iterate 12 (refine aJ (h := ?_);try simp only [ar])
  refine ad.nil ?_
  refine aO 12 (h:=fun K hK => ?_)
  go_simp
  (go_at_call 84;refine (WA.out _ (by first | assumption | exact aa.refl _ | exact (aa.refl _).drew | exact aa.drew (by assumption))).mono ?_;rintro e w5 ⟨rfl,k5⟩)
  try go_wp2_with fail
  refine hK.out _ _ ?_ fun hHeld => ?_
  ·first | assumption | exact aa.trans (by assumption) (by assumption)
  clear hK K
  try simp only [ar]
  refine ad.go [13,14,15,16,17,18,19,20,21,22,23,24,25,26] ?_
  iterate 14 (refine aJ (h := ?_);try simp only [ar])
  refine ad.nil ?_
  refine wpAnyH_done (by kernel_rfl) ?_ _
  go_wp2
  go_meet
  exact ⟨by rw [hr],by first | assumption | exact (aa.refl _).drew⟩
 case rest =>
 obtain ⟨rfl,kx⟩:=hcut
 generalize wc=wx at *
 clear WA TC LC dN Hz
 cases bad
 rotate_left
 ·have HN:Hid (je s ⟨ck,cn,cp,j,cb⟩ t=5):=ee.out
  have AE:=A0.out.keeps kx
  obtain ⟨_,o1,o2⟩:=AE.g.var.box
  dsimp only [ae] at o1
  obtain ⟨_,r1,r2⟩:=AE.r
  go_wp2
  exact AE.ret HN.out (fun h=>absurd h (by decide)) rfl (fun Q D=>by simp [results,Tryz.results87,go_sem,D])
 have BO:Hid (∀ w',aa Z w'->Calls Tryz.prog 152 #[.slice (some ⟨tb,0,none⟩) tn ak,.slice a' l.waits.length cap'] w' fun e w''=>e = .returned (.int .i64 bi) /\ aa w' w''):=fun w' kk=>by
  have:=FQ (HS.out.keeps kk).gM a' cap' l.waits FP.out (HW.out.keeps kk)
  rw [mu.out] at this
  exact this
 have LF:Hid (∀ w',aa Z w'->Calls Tryz.prog 151 #[.slice (some ⟨lb,cd,none⟩) ln aj,.int .i64 j,.int .i64 cn,.int .i64 bi] w' fun e w''=>∃ u us,e = .returned (.tuple #[u,.bool (eD s.af j cn bi)]) /\ Mine w'' w'.heap.size w''.heap.size u us (dV s.af j cn bi) /\ aa w' w''):=fun w' kk=>by
  have O:=HS.out.gL.keeps kk
  have:=FU (some ⟨lb,cd,none⟩) aj s.af j cn bi w' O.size O.gP
  rw [O.len] at this
  exact this
 go_upto_region 5 with fail
 refine FV 21 (S:=(fun w'=>aa Z w')) (by kernel_rfl) ?_ (fun hHeld => ?_)
 ·exact kx.drew
 refine ad.go [0,1,2,3,4,5,6,7,8,9,10,11,12,13,14] ?_
 iterate 15 (refine nV (h := ?_);try simp only [ar])
 refine ad.nil ?_
 refine ze (i:=15) (h:=fun K hK => ?_)
 go_simp
 first
  | (go_at_call 152;refine (BO.out _ (by assumption)).mono ?_;rintro e w7 ⟨rfl,k7⟩;have K7:aa Z w7:=aa.trans (by assumption) k7)
  | (go_at_call 151;refine (LF.out _ (by assumption)).mono ?_;rintro e w8 ⟨u8,mv,rfl,M8,k8⟩;obtain ⟨a8,c8,e8,-,-⟩:=M8.gP;obtain ⟨m8,qM⟩:∃ m,Hid ((dV s.af j cn bi).length=m):=⟨_,rfl⟩;rw [qM.out] at e8;subst e8;have zf:Hid (Mine w8 w7.heap.size w8.heap.size (Value.slice a8 m8 c8) mv (dV s.af j cn bi)):=M8;clear M8)
 try go_wp2_with fail
 refine hK.out _ _ ?_ fun hHeld => ?_
 ·first | assumption | exact aa.trans (by assumption) (by assumption)
 clear hK K
 try simp only [ar]
 refine ze (i:=16) (h:=fun K hK => ?_)
 go_simp
 first
  | (go_at_call 152;refine (BO.out _ (by assumption)).mono ?_;rintro e w7 ⟨rfl,k7⟩;have K7:aa Z w7:=aa.trans (by assumption) k7)
  | (go_at_call 151;refine (LF.out _ (by assumption)).mono ?_;rintro e w8 ⟨u8,mv,rfl,M8,k8⟩;obtain ⟨a8,c8,e8,-,-⟩:=M8.gP;obtain ⟨m8,qM⟩:∃ m,Hid ((dV s.af j cn bi).length=m):=⟨_,rfl⟩;rw [qM.out] at e8;subst e8;have zf:Hid (Mine w8 w7.heap.size w8.heap.size (Value.slice a8 m8 c8) mv (dV s.af j cn bi)):=M8;clear M8)
 try go_wp2_with fail
 refine hK.out _ _ ?_ fun hHeld => ?_
 ·first | assumption | exact aa.trans (by assumption) (by assumption)
 clear hK K
 try simp only [ar]
 refine ad.go [17,18] ?_
 iterate 2 (refine nV (h := ?_);try simp only [ar])
 refine ad.nil ?_
 refine FW (i:=19) (v := ?_) (by simp only [List.getElem?_toArray,List.getElem?_cons_succ,List.getElem?_cons_zero];rfl) (by kernel_rfl) (by kernel_rfl) (by kernel_rfl) (by kernel_rfl) (by exact fun _ _ _ h=>h) (Or.inl ⟨by rfl,?_⟩) (by assumption) ?_
 rotate_left
 ·(intro w _;go_simp;try (with_reducible rfl))
 try simp only [ar]
 refine ad.go [20] ?_
 iterate 1 (refine nV (h := ?_);try simp only [ar])
 refine ad.nil ?_
 refine FX (h:=fun K hK => ?_)
 have K8:aa Z w8:=(by assumption);obtain ⟨_,p1,p2⟩:=(A0.out.keeps K8).g.var.box;dsimp only [ae] at p1
 go_simp
 try go_wp2_with fail
 refine hK.out _ _ ?_
 clear hK K
 try simp only [ar]
 have HN:Hid (je s ⟨ck,cn,cp,j,cb⟩ t=0):=ee.out
 have AN:Hid (aR w lo ⟨⟨some ⟨tb,0,none⟩,tn,ak⟩,⟨some ⟨lb,cd,none⟩,ln,aj⟩,⟨ga,gn,ao⟩,⟨fa,fn,aq⟩,⟨ra,rn,au⟩⟩ vs (w8.setCell ⟨w.heap.size,3,none⟩ (.slice a8 m8 c8)) w.heap.size (w.heap.size+2) ⟨⟨some ⟨tb,0,none⟩,tn,ak⟩,⟨a8,m8,c8⟩,⟨ga,gn,ao⟩,⟨fa,fn,aq⟩,⟨ra,rn,au⟩⟩ mv { (s:Sy) with af:=dV s.af j cn bi }):=(A0.out.keeps K7).af k8 (x:=⟨a8,m8,c8⟩) zf.out
 clear p1 p2 BO LF hb0 hc0
 generalize w8.setCell ⟨w.heap.size,3,none⟩ (.slice a8 m8 c8)=X at *
 have AE:=AN.out
 obtain ⟨_,o1,o2⟩:=AE.g.var.box
 dsimp only [ae] at o1
 obtain ⟨_,r1,r2⟩:=AE.r
 go_wp2
 exact AE.ret HN.out (fun _=>mq.out.symm) rfl (fun Q D=>by simp [results,Tryz.results87,go_sem,D])
end Go.Proofs.YteagpjlgjfaclaaGreatDoor
