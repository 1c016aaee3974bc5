/-
  Calls: a lock is asked for.
  Calls: a lock is freed.
-/
import Derived.Test.YteagpjlgjfaclaaGreatDoorDraw1
import Derived.Test.YteagpjlgjfaclaaGreatDoorDueSpec
import Derived.Test.YteagpjlgjfaclaaGreatDoorPlain1
import Derived.Test.YteagpjlgjfaclaaGreatDoorFrame
import Derived.Deep.Cut
import Derived.Test.YteagpjlgjfaclaaGreatDoorSysAwake
import Derived.Test.YteagpjlgjfaclaaGreatDoorImplHead
import Derived.Test.YteagpjlgjfaclaaGreatDoorTaskBase
namespace Go.Proofs.YteagpjlgjfaclaaGreatDoor
set_option maxRecDepth 100000
open Go.RowKit
attribute [local go_sem] Keeps.refl Keeps.alloc Keeps.drew Keeps.drewN
set_option linter.unusedSimpArgs false in
set_option maxHeartbeats 8000000 in
theorem qil {w:World} {lo:Nat} {v:Sv} {vs:List Lv} {s:Sy} (h:OwnS w lo v vs s) (hl:lo <= w.heap.size) (R:SysR s) (c:Cl) {k:Nat} {t:Tsk} (ht:s.tasks[k]?=some t) :
  Calls Tryz.prog 86 #[.agg (syc s v),ck c,.int .i64 k] w (Did w lo v vs (qcn s c t) (qfE s c)):=by
 obtain ⟨⟨ta,tn,tcap⟩,⟨la,ln,lcap⟩,⟨ga,gn,gcap⟩,⟨fa,fn,fcap⟩,⟨ra,rn,rcap⟩⟩:=v
 have hk:k < s.tasks.length:=qaw ht
 obtain ⟨tb,htb⟩:=h.tasksAt hk
 dsimp only at htb
 subst htb
 cases c1:inB c.a 0 4
 ·have HN:Hid (qcn s c t=2):=by show _=_;unfold qcn;rw [c1];rfl
  obtain ⟨A0',C0',kZ⟩:=ask3 h hl c
  have C0:Hid (Blk _ (w.heap.size+1) (cc c)):=C0'
  have A0:Hid (AskR w lo _ vs _ w.heap.size (w.heap.size+2) _ vs s):=A0'
  have HS:Hid (SysOn _ _ s):=(h.on (by have:=R.small;omega)).keeps kZ
  clear A0' C0' h
  go_enter Tryz.func86,Tryz.ntmps86
  go_wp2_with fail
  change Calls _ _ _ (qat w ⟨⟨some ⟨tb,0,none⟩,tn,tcap⟩,⟨la,ln,lcap⟩,⟨ga,gn,gcap⟩,⟨fa,fn,fcap⟩,⟨ra,rn,rcap⟩⟩ s c) _
  generalize qat w ⟨⟨some ⟨tb,0,none⟩,tn,tcap⟩,⟨la,ln,lcap⟩,⟨ga,gn,gcap⟩,⟨fa,fn,fcap⟩,⟨ra,rn,rcap⟩⟩ s c=Z at *
  have hb0:∀ w',Keeps Z w'->∀ q,w'.cell? ⟨w.heap.size,q,none⟩=(syc s ⟨⟨some ⟨tb,0,none⟩,tn,tcap⟩,⟨la,ln,lcap⟩,⟨ga,gn,gcap⟩,⟨fa,fn,fcap⟩,⟨ra,rn,rcap⟩⟩)[q]?:=fun w' k=>(A0.out.g.var.box.keeps k).cells
  dsimp only [syc] at hb0
  have hc0:∀ w',Keeps Z w'->∀ q,w'.cell? ⟨w.heap.size+1,q,none⟩=(cc c)[q]?:=fun w' k=>(C0.out.keeps k).cells
  refine (qag _ _ _ _).mono ?_
  rintro e w' ⟨rfl,hw'⟩
  have hw2:=hw'.symm
  subst hw2
  rw [c1]
  have AE:=A0.out
  obtain ⟨_,o1,o2⟩:=AE.g.var.box
  dsimp only [syc] at o1
  obtain ⟨_,r1,r2⟩:=AE.r
  go_wp2
  exact AE.ret HN.out (fun h=>absurd h (by decide)) rfl (fun Q D=>by simp [results,Tryz.results86,go_sem,D])
 obtain ⟨ha0,ha1⟩:=qas.1 c1
 obtain ⟨ck,cn,cp,ca,cb⟩:=c
 dsimp only at ha0 ha1 c1
 obtain ⟨j,rfl⟩:∃ j:Nat,ca=(j:Int):=⟨ca.toNat,by omega⟩
 obtain ⟨l,hli⟩:=qal (xs:=s.locks) (k:=j) (by rw [R.five];omega)
 have ON:=h.on (by have:=R.small;omega)
 obtain ⟨hjn,lb,loff,a',cap',ha,l0,l1,hwl,hws⟩:=ON.onL.at hli
 dsimp only at ha
 subst ha
 have hkn:(k:Int) < (tn:Int):=by have:=ON.lay.tl;dsimp only at this;omega
 have hjn':(j:Int) < (ln:Int):=by dsimp only at hjn;omega
 have T0:∀ w',Keeps w w'->∀ i,i < 14->w'.cell? ⟨tb,k*14+i,none⟩=(tc t)[i]?:=fun w' kk i hi=>(kk.cells tb _ (h.blkLt (i:=0) (b:=tb) rfl).2).trans ((h.taskCells (rb:=tb) rfl ht).1 i hi)
 clear ON
 obtain ⟨za,Hz⟩:∃ z,Hid (qaJ s.locks cn=z):=⟨_,rfl⟩
 obtain ⟨sm,Hsm⟩:∃ z,Hid (qaD s j cn=z):=⟨_,rfl⟩
 obtain ⟨bad,Hbad⟩:∃ z,Hid (((t.st==2)||(decide (0 <= za)||((l.owner==cn) || !sm)))=z):=⟨_,rfl⟩
 have HN0:Hid (qcn s ⟨ck,cn,cp,j,cb⟩ t=if bad then 5 else if askN s.locks j cn==4 then 6 else 0):=by
  show _=_
  have e1:(!decide (za < 0))=decide (0 <= za):=by rw [Bool.eq_iff_iff];simp
  unfold qcn
  dsimp only
  rw [c1,Hz.out,Hsm.out,e1,Int.toNat_natCast,qbT hli,Hbad.out]
  simp
 obtain ⟨A0',C0',kZ⟩:=ask3 h hl ⟨ck,cn,cp,j,cb⟩
 have C0:Hid (Blk _ (w.heap.size+1) (cc ⟨ck,cn,cp,j,cb⟩)):=C0'
 have A0:Hid (AskR w lo _ vs _ w.heap.size (w.heap.size+2) _ vs s):=A0'
 have HS:Hid (SysOn _ _ s):=(h.on (by have:=R.small;omega)).keeps kZ
 clear A0' C0' h
 have TC:∀ w',Keeps (qat w ⟨⟨some ⟨tb,0,none⟩,tn,tcap⟩,⟨some ⟨lb,loff,none⟩,ln,lcap⟩,⟨ga,gn,gcap⟩,⟨fa,fn,fcap⟩,⟨ra,rn,rcap⟩⟩ s ⟨ck,cn,cp,j,cb⟩) w'->∀ i,i < 14->w'.cell? ⟨tb,k*14+i,none⟩=(tc t)[i]?:=fun w' kk=>T0 w' (kZ.trans kk)
 have LC:∀ w',Keeps (qat w ⟨⟨some ⟨tb,0,none⟩,tn,tcap⟩,⟨some ⟨lb,loff,none⟩,ln,lcap⟩,⟨ga,gn,gcap⟩,⟨fa,fn,fcap⟩,⟨ra,rn,rcap⟩⟩ s ⟨ck,cn,cp,j,cb⟩) w'->w'.cell? ⟨lb,loff+j*2,none⟩=some (.int .i64 l.owner):=fun w' kk=>l0 w' (kZ.trans kk)
 clear T0 l0 l1 hws hwl
 go_enter Tryz.func86,Tryz.ntmps86
 go_wp2_with fail
 change Calls _ _ _ (qat w ⟨⟨some ⟨tb,0,none⟩,tn,tcap⟩,⟨some ⟨lb,loff,none⟩,ln,lcap⟩,⟨ga,gn,gcap⟩,⟨fa,fn,fcap⟩,⟨ra,rn,rcap⟩⟩ s ⟨ck,cn,cp,j,cb⟩) _
 generalize qat w ⟨⟨some ⟨tb,0,none⟩,tn,tcap⟩,⟨some ⟨lb,loff,none⟩,ln,lcap⟩,⟨ga,gn,gcap⟩,⟨fa,fn,fcap⟩,⟨ra,rn,rcap⟩⟩ s ⟨ck,cn,cp,j,cb⟩=Z at *
 have hb0:∀ w',Keeps Z w'->∀ q,w'.cell? ⟨w.heap.size,q,none⟩=(syc s ⟨⟨some ⟨tb,0,none⟩,tn,tcap⟩,⟨some ⟨lb,loff,none⟩,ln,lcap⟩,⟨ga,gn,gcap⟩,⟨fa,fn,fcap⟩,⟨ra,rn,rcap⟩⟩)[q]?:=fun w' k=>(A0.out.g.var.box.keeps k).cells
 dsimp only [syc] at hb0
 have hc0:∀ w',Keeps Z w'->∀ q,w'.cell? ⟨w.heap.size+1,q,none⟩=(cc ⟨ck,cn,cp,j,cb⟩)[q]?:=fun w' k=>(C0.out.keeps k).cells
 have WA:Hid (∀ w',Keeps Z w'->Calls Tryz.prog 84 #[.slice (some ⟨lb,loff,none⟩) ln lcap,.int .i64 cn] w' fun e w''=>e = .returned (.int .i64 za) /\ Keeps w' w''):=fun w' kk=>HS.out.onL.sWaitAt cn Hz.out kk
 have SC:Hid (∀ w',Keeps Z w'->Calls Tryz.prog 149 #[.agg (syc s ⟨⟨some ⟨tb,0,none⟩,tn,tcap⟩,⟨some ⟨lb,loff,none⟩,ln,lcap⟩,⟨ga,gn,gcap⟩,⟨fa,fn,fcap⟩,⟨ra,rn,rcap⟩⟩),.int .i64 j,.int .i64 cn] w' fun e w''=>e = .returned (.bool sm) /\ Keeps w' w''):=fun w' kk=>by
  have:=qmg (HS.out.keeps kk) j cn
  rw [Hsm.out] at this
  exact this
 refine (qag _ _ _ _).mono ?_
 rintro e w' ⟨rfl,hw'⟩
 have hw2:=hw'.symm
 subst hw2
 rw [c1]
 go_upto_region 3 with fail
 go_cut [50] (fun b wx=>b = .bool bad /\ Keeps Z wx)
 case first =>
  cases d1:(t.st==2)
  rotate_left
  ·have hr:bad=true:=by rw [<- Hbad.out,d1];rfl
   refine wp_region_held_drew (S:=(fun w'=>Keeps Z w')) (by kernel_rfl) ?_ (fun hHeld => ?_)
   ·exact (Keeps.refl Z).drew
   refine Plan.go [0,1,2,3,4,5,6,7] ?_
   iterate 8 (refine qac (by simp only [qab];rfl) (by kernel_rfl) (by exact fun _ _ _ h=>h) (by rfl) (by assumption) (fun w _=>by go_simp;try (with_reducible rfl)) ?_;try simp only [qaa])
   refine Plan.nil ?_
   refine Plan.go [8,9,10,11,12,13] ?_
   iterate 6 (refine qaA (by simp only [qab];rfl) (by kernel_rfl) (by exact fun _ _ _ h=>h) (by rfl) (by assumption) ?_;try simp only [qaa])
   refine Plan.nil ?_
   refine Plan.go [14,15] ?_
   iterate 2 (refine qac (by simp only [qab];rfl) (by kernel_rfl) (by exact fun _ _ _ h=>h) (by rfl) (by assumption) (fun w _=>by go_simp;try (with_reducible rfl)) ?_;try simp only [qaa])
   refine Plan.nil ?_
   refine Plan.go [16,17,18,19,20,21,22,23,24,25] ?_
   iterate 10 (refine qaA (by simp only [qab];rfl) (by kernel_rfl) (by exact fun _ _ _ h=>h) (by rfl) (by assumption) ?_;try simp only [qaa])
   refine Plan.nil ?_
   refine Plan.go [26,27] ?_
   iterate 2 (refine qac (by simp only [qab];rfl) (by kernel_rfl) (by exact fun _ _ _ h=>h) (by rfl) (by assumption) (fun w _=>by go_simp;try (with_reducible rfl)) ?_;try simp only [qaa])
   refine Plan.nil ?_
   refine Plan.go [28,29,30,31,32,33,34] ?_
   iterate 7 (refine qaA (by simp only [qab];rfl) (by kernel_rfl) (by exact fun _ _ _ h=>h) (by rfl) (by assumption) ?_;try simp only [qaa])
   refine Plan.nil ?_
   refine qar 35 (v := ?_) (by simp only [qab];rfl) (by kernel_rfl) (by exact fun _ _ _ h=>h) (by rfl) (by assumption) ?_ ?_
   rotate_left
   ·(intro w _;go_simp;try (with_reducible rfl))
   try simp only [qaa]
   refine wpAnyH_done (by kernel_rfl) ?_ _
   go_wp2
   go_meet
   exact ⟨by rw [hr],by first | assumption | exact (Keeps.refl _).drew⟩
  cases d2:decide (0 <= za)
  rotate_left
  ·have hr:bad=true:=by rw [<- Hbad.out,d1,d2];rfl
   refine wp_region_held_drew (S:=(fun w'=>Keeps Z w')) (by kernel_rfl) ?_ (fun hHeld => ?_)
   ·exact (Keeps.refl Z).drew
   refine Plan.go [0,1,2,3,4,5,6,7,8,9,10,11] ?_
   iterate 12 (refine qac (by simp only [qab];rfl) (by kernel_rfl) (by exact fun _ _ _ h=>h) (by rfl) (by assumption) (fun w _=>by go_simp;try (with_reducible rfl)) ?_;try simp only [qaa])
   refine Plan.nil ?_
   refine qad 12 (by kernel_rfl) (by simp only [qab];rfl) (fun K hK => ?_)
   go_simp
   (go_at_call 84;refine (WA.out _ (by first | assumption | exact Keeps.refl _ | exact (Keeps.refl _).drew | exact Keeps.drew (by assumption))).mono ?_;rintro e w5 ⟨rfl,k5⟩)
   try go_wp2_with fail
   refine hK.out _ _ ?_ (fun hHeld => ?_)
   ·first | assumption | exact Keeps.trans (by assumption) (by assumption)
   clear hK K
   try simp only [qaa]
   refine Plan.go [13,14,15] ?_
   iterate 3 (refine qac (by simp only [qab];rfl) (by kernel_rfl) (by exact fun _ _ _ h=>h) (by rfl) (by assumption) (fun w _=>by go_simp;try (with_reducible rfl)) ?_;try simp only [qaa])
   refine Plan.nil ?_
   refine Plan.go [16,17,18,19,20,21,22,23,24,25] ?_
   iterate 10 (refine qaA (by simp only [qab];rfl) (by kernel_rfl) (by exact fun _ _ _ h=>h) (by rfl) (by assumption) ?_;try simp only [qaa])
   refine Plan.nil ?_
   refine Plan.go [26,27] ?_
   iterate 2 (refine qac (by simp only [qab];rfl) (by kernel_rfl) (by exact fun _ _ _ h=>h) (by rfl) (by assumption) (fun w _=>by go_simp;try (with_reducible rfl)) ?_;try simp only [qaa])
   refine Plan.nil ?_
   refine Plan.go [28,29,30,31,32,33,34] ?_
   iterate 7 (refine qaA (by simp only [qab];rfl) (by kernel_rfl) (by exact fun _ _ _ h=>h) (by rfl) (by assumption) ?_;try simp only [qaa])
   refine Plan.nil ?_
   refine qar 35 (v := ?_) (by simp only [qab];rfl) (by kernel_rfl) (by exact fun _ _ _ h=>h) (by rfl) (by assumption) ?_ ?_
   rotate_left
   ·(intro w _;go_simp;try (with_reducible rfl))
   try simp only [qaa]
   refine wpAnyH_done (by kernel_rfl) ?_ _
   go_wp2
   go_meet
   exact ⟨by rw [hr],by first | assumption | exact (Keeps.refl _).drew⟩
  cases d3:(l.owner==cn)
  rotate_left
  ·have hr:bad=true:=by rw [<- Hbad.out,d1,d2,d3];rfl
   refine wp_region_held_drew (S:=(fun w'=>Keeps Z w')) (by kernel_rfl) ?_ (fun hHeld => ?_)
   ·exact (Keeps.refl Z).drew
   refine Plan.go [0,1,2,3,4,5,6,7,8,9,10,11] ?_
   iterate 12 (refine qac (by simp only [qab];rfl) (by kernel_rfl) (by exact fun _ _ _ h=>h) (by rfl) (by assumption) (fun w _=>by go_simp;try (with_reducible rfl)) ?_;try simp only [qaa])
   refine Plan.nil ?_
   refine qad 12 (by kernel_rfl) (by simp only [qab];rfl) (fun K hK => ?_)
   go_simp
   (go_at_call 84;refine (WA.out _ (by first | assumption | exact Keeps.refl _ | exact (Keeps.refl _).drew | exact Keeps.drew (by assumption))).mono ?_;rintro e w5 ⟨rfl,k5⟩)
   try go_wp2_with fail
   refine hK.out _ _ ?_ (fun hHeld => ?_)
   ·first | assumption | exact Keeps.trans (by assumption) (by assumption)
   clear hK K
   try simp only [qaa]
   refine Plan.go [13,14,15,16,17,18,19,20,21,22,23,24,25,26,27] ?_
   iterate 15 (refine qac (by simp only [qab];rfl) (by kernel_rfl) (by exact fun _ _ _ h=>h) (by rfl) (by assumption) (fun w _=>by go_simp;try (with_reducible rfl)) ?_;try simp only [qaa])
   refine Plan.nil ?_
   refine Plan.go [28,29,30,31,32,33,34] ?_
   iterate 7 (refine qaA (by simp only [qab];rfl) (by kernel_rfl) (by exact fun _ _ _ h=>h) (by rfl) (by assumption) ?_;try simp only [qaa])
   refine Plan.nil ?_
   refine qar 35 (v := ?_) (by simp only [qab];rfl) (by kernel_rfl) (by exact fun _ _ _ h=>h) (by rfl) (by assumption) ?_ ?_
   rotate_left
   ·(intro w _;go_simp;try (with_reducible rfl))
   try simp only [qaa]
   refine wpAnyH_done (by kernel_rfl) ?_ _
   go_wp2
   go_meet
   exact ⟨by rw [hr],by first | assumption | exact (Keeps.refl _).drew⟩
  have hr:bad = !sm:=by rw [<- Hbad.out,d1,d2,d3];rfl
  refine wp_region_held_drew (S:=(fun w'=>Keeps Z w')) (by kernel_rfl) ?_ (fun hHeld => ?_)
  ·exact (Keeps.refl Z).drew
  refine Plan.go [0,1,2,3,4,5,6,7,8,9,10,11] ?_
  iterate 12 (refine qac (by simp only [qab];rfl) (by kernel_rfl) (by exact fun _ _ _ h=>h) (by rfl) (by assumption) (fun w _=>by go_simp;try (with_reducible rfl)) ?_;try simp only [qaa])
  refine Plan.nil ?_
  refine qad 12 (by kernel_rfl) (by simp only [qab];rfl) (fun K hK => ?_)
  go_simp
  first
   | (go_at_call 84;refine (WA.out _ (by first | assumption | exact Keeps.refl _ | exact (Keeps.refl _).drew | exact Keeps.drew (by assumption))).mono ?_;rintro e w5 ⟨rfl,k5⟩)
   | (go_at_call 149;refine (SC.out _ (by first | assumption | exact Keeps.refl _ | exact (Keeps.refl _).drew | exact Keeps.drew (by assumption))).mono ?_;rintro e w6 ⟨rfl,k6⟩)
  try go_wp2_with fail
  refine hK.out _ _ ?_ (fun hHeld => ?_)
  ·first | assumption | exact Keeps.trans (by assumption) (by assumption)
  clear hK K
  try simp only [qaa]
  refine Plan.go [13,14,15,16,17,18,19,20,21,22,23,24,25,26,27,28,29,30,31,32] ?_
  iterate 20 (refine qac (by simp only [qab];rfl) (by kernel_rfl) (by exact fun _ _ _ h=>h) (by rfl) (by assumption) (fun w _=>by go_simp;try (with_reducible rfl)) ?_;try simp only [qaa])
  refine Plan.nil ?_
  refine qad 33 (by kernel_rfl) (by simp only [qab];rfl) (fun K hK => ?_)
  go_simp
  first
   | (go_at_call 84;refine (WA.out _ (by first | assumption | exact Keeps.refl _ | exact (Keeps.refl _).drew | exact Keeps.drew (by assumption))).mono ?_;rintro e w5 ⟨rfl,k5⟩)
   | (go_at_call 149;refine (SC.out _ (by first | assumption | exact Keeps.refl _ | exact (Keeps.refl _).drew | exact Keeps.drew (by assumption))).mono ?_;rintro e w6 ⟨rfl,k6⟩)
  try go_wp2_with fail
  refine hK.out _ _ ?_ (fun hHeld => ?_)
  ·first | assumption | exact Keeps.trans (by assumption) (by assumption)
  clear hK K
  try simp only [qaa]
  refine Plan.go [34,35] ?_
  iterate 2 (refine qac (by simp only [qab];rfl) (by kernel_rfl) (by exact fun _ _ _ h=>h) (by rfl) (by assumption) (fun w _=>by go_simp;try (with_reducible rfl)) ?_;try simp only [qaa])
  refine Plan.nil ?_
  refine wpAnyH_done (by kernel_rfl) ?_ _
  go_wp2
  go_meet
  exact ⟨by rw [hr],by first | assumption | exact (Keeps.refl _).drew⟩
 case rest =>
 obtain ⟨rfl,kx⟩:=hcut
 generalize wc=wx at *
 clear WA TC LC Hbad Hz SC Hsm
 cases bad
 rotate_left
 ·have HN:Hid (qcn s ⟨ck,cn,cp,j,cb⟩ t=5):=HN0.out
  have AE:=A0.out.keeps kx
  obtain ⟨_,o1,o2⟩:=AE.g.var.box
  dsimp only [syc] at o1
  obtain ⟨_,r1,r2⟩:=AE.r
  go_wp2
  exact AE.ret HN.out (fun h=>absurd h (by decide)) rfl (fun Q D=>by simp [results,Tryz.results86,go_sem,D])
 have LA:Hid (∀ w',Keeps Z w'->Calls Tryz.prog 150 #[.slice (some ⟨lb,loff,none⟩) ln lcap,.int .i64 j,.int .i64 cn] w' fun e w''=>∃ u us,e = .returned (.tuple #[u,.int .i64 (askN s.locks j cn)]) /\ Mine w'' w'.heap.size w''.heap.size u us (askL s.locks j cn) /\ Keeps w' w''):=fun w' kk=>by
  have O:=HS.out.onL.keeps kk
  have:=qgK (some ⟨lb,loff,none⟩) lcap s.locks j cn w' O.size O.lks
  rw [O.len] at this
  exact this
 obtain ⟨an,Han⟩:∃ z,Hid (askN s.locks j cn=z):=⟨_,rfl⟩
 rw [Han.out] at LA
 go_upto_region 6 with (go_at_call 150;refine (LA.out _ kx).mono ?_;rintro e w6 ⟨u6,us6,rfl,M6,k6⟩)
 obtain ⟨a6,c6,e6,-,-⟩:=M6.lks
 obtain ⟨m6,Hm6⟩:∃ m,Hid ((askL s.locks j cn).length=m):=⟨_,rfl⟩
 rw [Hm6.out] at e6
 subst e6
 have HM6:Hid (Mine w6 wx.heap.size w6.heap.size (Value.slice a6 m6 c6) us6 (askL s.locks j cn)):=M6
 clear M6
 cases d5:(an==4)
 rotate_left
 ·have HN:Hid (qcn s ⟨ck,cn,cp,j,cb⟩ t=6):=by show _=_;rw [HN0.out,Han.out,d5];rfl
  have AE:=A0.out.keeps (kx.trans k6)
  obtain ⟨_,o1,o2⟩:=AE.g.var.box
  dsimp only [syc] at o1
  obtain ⟨_,r1,r2⟩:=AE.r
  go_wp2
  exact AE.ret HN.out (fun h=>absurd h (by decide)) rfl (fun Q D=>by simp [results,Tryz.results86,go_sem,D])
 have HN:Hid (qcn s ⟨ck,cn,cp,j,cb⟩ t=0):=by show _=_;rw [HN0.out,Han.out,d5];rfl
 have AN:Hid (AskR w lo ⟨⟨some ⟨tb,0,none⟩,tn,tcap⟩,⟨some ⟨lb,loff,none⟩,ln,lcap⟩,⟨ga,gn,gcap⟩,⟨fa,fn,fcap⟩,⟨ra,rn,rcap⟩⟩ vs (w6.setCell ⟨w.heap.size,3,none⟩ (.slice a6 m6 c6)) w.heap.size (w.heap.size+2) ⟨⟨some ⟨tb,0,none⟩,tn,tcap⟩,⟨a6,m6,c6⟩,⟨ga,gn,gcap⟩,⟨fa,fn,fcap⟩,⟨ra,rn,rcap⟩⟩ us6 { (s:Sy) with locks:=askL s.locks j cn }):=(A0.out.keeps kx).locks k6 (x:=⟨a6,m6,c6⟩) HM6.out
 obtain ⟨_,p1,p2⟩:=(A0.out.keeps (kx.trans k6)).g.var.box
 obtain ⟨_,q1,q2⟩:=(A0.out.keeps (kx.trans k6)).r
 dsimp only [syc] at p1
 have hsz:w.heap.size+2≠w.heap.size:=by omega
 have AE:=AN.out
 obtain ⟨_,o1,o2⟩:=AE.g.var.box
 dsimp only [syc] at o1
 obtain ⟨_,r1,r2⟩:=AE.r
 go_wp2
 exact AE.ret HN.out (fun _=>rfl) rfl (fun Q D=>by simp [results,Tryz.results86,go_sem,D])
end Go.Proofs.YteagpjlgjfaclaaGreatDoor
namespace Go.Proofs.YteagpjlgjfaclaaGreatDoor
set_option maxRecDepth 100000
open Go.RowKit
attribute [local go_sem] Keeps.refl Keeps.alloc Keeps.drew Keeps.drewN
set_option linter.unusedSimpArgs false in
set_option maxHeartbeats 8000000 in
theorem qix {w:World} {lo:Nat} {v:Sv} {vs:List Lv} {s:Sy} (h:OwnS w lo v vs s) (hl:lo <= w.heap.size) (R:SysR s) (c:Cl) {k:Nat} {t:Tsk} (ht:s.tasks[k]?=some t) :
  Calls Tryz.prog 87 #[.agg (syc s v),ck c,.int .i64 k] w (Did w lo v vs (qcy s c t) (qej s c)):=by
 obtain ⟨⟨ta,tn,tcap⟩,⟨la,ln,lcap⟩,⟨ga,gn,gcap⟩,⟨fa,fn,fcap⟩,⟨ra,rn,rcap⟩⟩:=v
 have hk:k < s.tasks.length:=qaw ht
 obtain ⟨tb,htb⟩:=h.tasksAt hk
 dsimp only at htb
 subst htb
 cases c1:inB c.a 0 4
 ·have HN:Hid (qcy s c t=2):=by show _=_;unfold qcy;rw [c1];rfl
  obtain ⟨A0',C0',kZ⟩:=ask3 h hl c
  have C0:Hid (Blk _ (w.heap.size+1) (cc c)):=C0'
  have A0:Hid (AskR w lo _ vs _ w.heap.size (w.heap.size+2) _ vs s):=A0'
  have HS:Hid (SysOn _ _ s):=(h.on (by have:=R.small;omega)).keeps kZ
  clear A0' C0' h
  go_enter Tryz.func87,Tryz.ntmps87
  go_wp2_with fail
  change Calls _ _ _ (qat w ⟨⟨some ⟨tb,0,none⟩,tn,tcap⟩,⟨la,ln,lcap⟩,⟨ga,gn,gcap⟩,⟨fa,fn,fcap⟩,⟨ra,rn,rcap⟩⟩ s c) _
  generalize qat w ⟨⟨some ⟨tb,0,none⟩,tn,tcap⟩,⟨la,ln,lcap⟩,⟨ga,gn,gcap⟩,⟨fa,fn,fcap⟩,⟨ra,rn,rcap⟩⟩ s c=Z at *
  have hb0:∀ w',Keeps Z w'->∀ q,w'.cell? ⟨w.heap.size,q,none⟩=(syc s ⟨⟨some ⟨tb,0,none⟩,tn,tcap⟩,⟨la,ln,lcap⟩,⟨ga,gn,gcap⟩,⟨fa,fn,fcap⟩,⟨ra,rn,rcap⟩⟩)[q]?:=fun w' k=>(A0.out.g.var.box.keeps k).cells
  dsimp only [syc] at hb0
  have hc0:∀ w',Keeps Z w'->∀ q,w'.cell? ⟨w.heap.size+1,q,none⟩=(cc c)[q]?:=fun w' k=>(C0.out.keeps k).cells
  refine (qag _ _ _ _).mono ?_
  rintro e w' ⟨rfl,hw'⟩
  have hw2:=hw'.symm
  subst hw2
  rw [c1]
  have AE:=A0.out
  obtain ⟨_,o1,o2⟩:=AE.g.var.box
  dsimp only [syc] at o1
  obtain ⟨_,r1,r2⟩:=AE.r
  go_wp2
  exact AE.ret HN.out (fun h=>absurd h (by decide)) rfl (fun Q D=>by simp [results,Tryz.results87,go_sem,D])
 obtain ⟨ha0,ha1⟩:=qas.1 c1
 obtain ⟨ck,cn,cp,ca,cb⟩:=c
 dsimp only at ha0 ha1 c1
 obtain ⟨j,rfl⟩:∃ j:Nat,ca=(j:Int):=⟨ca.toNat,by omega⟩
 obtain ⟨l,hli⟩:=qal (xs:=s.locks) (k:=j) (by rw [R.five];omega)
 have ON:=h.on (by have:=R.small;omega)
 obtain ⟨hjn,lb,loff,a',cap',ha,l0,l1,hwl,hws⟩:=ON.onL.at hli
 dsimp only at ha
 subst ha
 have hkn:(k:Int) < (tn:Int):=by have:=ON.lay.tl;dsimp only at this;omega
 have hjn':(j:Int) < (ln:Int):=by dsimp only at hjn;omega
 have T0:∀ w',Keeps w w'->∀ i,i < 14->w'.cell? ⟨tb,k*14+i,none⟩=(tc t)[i]?:=fun w' kk i hi=>(kk.cells tb _ (h.blkLt (i:=0) (b:=tb) rfl).2).trans ((h.taskCells (rb:=tb) rfl ht).1 i hi)
 clear ON
 obtain ⟨za,Hz⟩:∃ z,Hid (qaJ s.locks cn=z):=⟨_,rfl⟩
 obtain ⟨bad,Hbad⟩:∃ z,Hid (((t.st==2)||(decide (0 <= za)||(l.owner != cn)))=z):=⟨_,rfl⟩
 obtain ⟨bi,Hbi⟩:∃ z,Hid (qcm s.tasks l.waits=z):=⟨_,rfl⟩
 have HN0:Hid (qcy s ⟨ck,cn,cp,j,cb⟩ t=if bad then 5 else 0):=by
  show _=_
  have e1:(!decide (za < 0))=decide (0 <= za):=by rw [Bool.eq_iff_iff];simp
  unfold qcy
  dsimp only
  rw [c1,Hz.out,e1,Int.toNat_natCast,qbT hli,Hbad.out]
  simp
 have HC0:Hid (qej s ⟨ck,cn,cp,j,cb⟩={ s with locks:=qaX s.locks j cn bi }):=by
  show _=_
  unfold qej
  dsimp only
  rw [Int.toNat_natCast,qiy hli,Hbi.out]
 obtain ⟨A0',C0',kZ⟩:=ask3 h hl ⟨ck,cn,cp,j,cb⟩
 have C0:Hid (Blk _ (w.heap.size+1) (cc ⟨ck,cn,cp,j,cb⟩)):=C0'
 have A0:Hid (AskR w lo _ vs _ w.heap.size (w.heap.size+2) _ vs s):=A0'
 have HS:Hid (SysOn _ _ s):=(h.on (by have:=R.small;omega)).keeps kZ
 clear A0' C0' h
 have TC:∀ w',Keeps (qat w ⟨⟨some ⟨tb,0,none⟩,tn,tcap⟩,⟨some ⟨lb,loff,none⟩,ln,lcap⟩,⟨ga,gn,gcap⟩,⟨fa,fn,fcap⟩,⟨ra,rn,rcap⟩⟩ s ⟨ck,cn,cp,j,cb⟩) w'->∀ i,i < 14->w'.cell? ⟨tb,k*14+i,none⟩=(tc t)[i]?:=fun w' kk=>T0 w' (kZ.trans kk)
 have LC:∀ w',Keeps (qat w ⟨⟨some ⟨tb,0,none⟩,tn,tcap⟩,⟨some ⟨lb,loff,none⟩,ln,lcap⟩,⟨ga,gn,gcap⟩,⟨fa,fn,fcap⟩,⟨ra,rn,rcap⟩⟩ s ⟨ck,cn,cp,j,cb⟩) w'->w'.cell? ⟨lb,loff+j*2,none⟩=some (.int .i64 l.owner):=fun w' kk=>l0 w' (kZ.trans kk)
 have LW:∀ w',Keeps (qat w ⟨⟨some ⟨tb,0,none⟩,tn,tcap⟩,⟨some ⟨lb,loff,none⟩,ln,lcap⟩,⟨ga,gn,gcap⟩,⟨fa,fn,fcap⟩,⟨ra,rn,rcap⟩⟩ s ⟨ck,cn,cp,j,cb⟩) w'->w'.cell? ⟨lb,loff+j*2+1,none⟩=some (.slice a' l.waits.length cap'):=fun w' kk=>l1 w' (kZ.trans kk)
 have HW:Hid (Ns (qat w ⟨⟨some ⟨tb,0,none⟩,tn,tcap⟩,⟨some ⟨lb,loff,none⟩,ln,lcap⟩,⟨ga,gn,gcap⟩,⟨fa,fn,fcap⟩,⟨ra,rn,rcap⟩⟩ s ⟨ck,cn,cp,j,cb⟩) a' l.waits):=hws.keeps kZ
 have HWL:Hid (l.waits.length <= maxLen):=hwl
 clear T0 l0 l1 hws hwl
 go_enter Tryz.func87,Tryz.ntmps87
 go_wp2_with fail
 change Calls _ _ _ (qat w ⟨⟨some ⟨tb,0,none⟩,tn,tcap⟩,⟨some ⟨lb,loff,none⟩,ln,lcap⟩,⟨ga,gn,gcap⟩,⟨fa,fn,fcap⟩,⟨ra,rn,rcap⟩⟩ s ⟨ck,cn,cp,j,cb⟩) _
 generalize qat w ⟨⟨some ⟨tb,0,none⟩,tn,tcap⟩,⟨some ⟨lb,loff,none⟩,ln,lcap⟩,⟨ga,gn,gcap⟩,⟨fa,fn,fcap⟩,⟨ra,rn,rcap⟩⟩ s ⟨ck,cn,cp,j,cb⟩=Z at *
 have hb0:∀ w',Keeps Z w'->∀ q,w'.cell? ⟨w.heap.size,q,none⟩=(syc s ⟨⟨some ⟨tb,0,none⟩,tn,tcap⟩,⟨some ⟨lb,loff,none⟩,ln,lcap⟩,⟨ga,gn,gcap⟩,⟨fa,fn,fcap⟩,⟨ra,rn,rcap⟩⟩)[q]?:=fun w' k=>(A0.out.g.var.box.keeps k).cells
 dsimp only [syc] at hb0
 have hc0:∀ w',Keeps Z w'->∀ q,w'.cell? ⟨w.heap.size+1,q,none⟩=(cc ⟨ck,cn,cp,j,cb⟩)[q]?:=fun w' k=>(C0.out.keeps k).cells
 have WA:Hid (∀ w',Keeps Z w'->Calls Tryz.prog 84 #[.slice (some ⟨lb,loff,none⟩) ln lcap,.int .i64 cn] w' fun e w''=>e = .returned (.int .i64 za) /\ Keeps w' w''):=fun w' kk=>HS.out.onL.sWaitAt cn Hz.out kk
 refine (qag _ _ _ _).mono ?_
 rintro e w' ⟨rfl,hw'⟩
 have hw2:=hw'.symm
 subst hw2
 rw [c1]
 go_upto_region 3 with fail
 go_cut [39] (fun b wx=>b = .bool bad /\ Keeps Z wx)
 case first =>
  cases d1:(t.st==2)
  rotate_left
  ·have hr:bad=true:=by rw [<- Hbad.out,d1];rfl
   refine wp_region_held_drew (S:=(fun w'=>Keeps Z w')) (by kernel_rfl) ?_ (fun hHeld => ?_)
   ·exact (Keeps.refl Z).drew
   refine Plan.go [0,1,2,3,4,5,6,7] ?_
   iterate 8 (refine qac (by simp only [qab];rfl) (by kernel_rfl) (by exact fun _ _ _ h=>h) (by rfl) (by assumption) (fun w _=>by go_simp;try (with_reducible rfl)) ?_;try simp only [qaa])
   refine Plan.nil ?_
   refine Plan.go [8,9,10,11,12,13] ?_
   iterate 6 (refine qaA (by simp only [qab];rfl) (by kernel_rfl) (by exact fun _ _ _ h=>h) (by rfl) (by assumption) ?_;try simp only [qaa])
   refine Plan.nil ?_
   refine Plan.go [14,15] ?_
   iterate 2 (refine qac (by simp only [qab];rfl) (by kernel_rfl) (by exact fun _ _ _ h=>h) (by rfl) (by assumption) (fun w _=>by go_simp;try (with_reducible rfl)) ?_;try simp only [qaa])
   refine Plan.nil ?_
   refine Plan.go [16,17,18,19,20,21,22,23,24,25] ?_
   iterate 10 (refine qaA (by simp only [qab];rfl) (by kernel_rfl) (by exact fun _ _ _ h=>h) (by rfl) (by assumption) ?_;try simp only [qaa])
   refine Plan.nil ?_
   refine qar 26 (v := ?_) (by simp only [qab];rfl) (by kernel_rfl) (by exact fun _ _ _ h=>h) (by rfl) (by assumption) ?_ ?_
   rotate_left
   ·(intro w _;go_simp;try (with_reducible rfl))
   try simp only [qaa]
   refine wpAnyH_done (by kernel_rfl) ?_ _
   go_wp2
   go_meet
   exact ⟨by rw [hr],by first | assumption | exact (Keeps.refl _).drew⟩
  cases d2:decide (0 <= za)
  rotate_left
  ·have hr:bad=true:=by rw [<- Hbad.out,d1,d2];rfl
   refine wp_region_held_drew (S:=(fun w'=>Keeps Z w')) (by kernel_rfl) ?_ (fun hHeld => ?_)
   ·exact (Keeps.refl Z).drew
   refine Plan.go [0,1,2,3,4,5,6,7,8,9,10,11] ?_
   iterate 12 (refine qac (by simp only [qab];rfl) (by kernel_rfl) (by exact fun _ _ _ h=>h) (by rfl) (by assumption) (fun w _=>by go_simp;try (with_reducible rfl)) ?_;try simp only [qaa])
   refine Plan.nil ?_
   refine qad 12 (by kernel_rfl) (by simp only [qab];rfl) (fun K hK => ?_)
   go_simp
   (go_at_call 84;refine (WA.out _ (by first | assumption | exact Keeps.refl _ | exact (Keeps.refl _).drew | exact Keeps.drew (by assumption))).mono ?_;rintro e w5 ⟨rfl,k5⟩)
   try go_wp2_with fail
   refine hK.out _ _ ?_ (fun hHeld => ?_)
   ·first | assumption | exact Keeps.trans (by assumption) (by assumption)
   clear hK K
   try simp only [qaa]
   refine Plan.go [13,14,15] ?_
   iterate 3 (refine qac (by simp only [qab];rfl) (by kernel_rfl) (by exact fun _ _ _ h=>h) (by rfl) (by assumption) (fun w _=>by go_simp;try (with_reducible rfl)) ?_;try simp only [qaa])
   refine Plan.nil ?_
   refine Plan.go [16,17,18,19,20,21,22,23,24,25] ?_
   iterate 10 (refine qaA (by simp only [qab];rfl) (by kernel_rfl) (by exact fun _ _ _ h=>h) (by rfl) (by assumption) ?_;try simp only [qaa])
   refine Plan.nil ?_
   refine qar 26 (v := ?_) (by simp only [qab];rfl) (by kernel_rfl) (by exact fun _ _ _ h=>h) (by rfl) (by assumption) ?_ ?_
   rotate_left
   ·(intro w _;go_simp;try (with_reducible rfl))
   try simp only [qaa]
   refine wpAnyH_done (by kernel_rfl) ?_ _
   go_wp2
   go_meet
   exact ⟨by rw [hr],by first | assumption | exact (Keeps.refl _).drew⟩
  have hr:bad=(l.owner != cn):=by rw [<- Hbad.out,d1,d2];rfl
  refine wp_region_held_drew (S:=(fun w'=>Keeps Z w')) (by kernel_rfl) ?_ (fun hHeld => ?_)
  ·exact (Keeps.refl Z).drew
  refine Plan.go [0,1,2,3,4,5,6,7,8,9,10,11] ?_
  iterate 12 (refine qac (by simp only [qab];rfl) (by kernel_rfl) (by exact fun _ _ _ h=>h) (by rfl) (by assumption) (fun w _=>by go_simp;try (with_reducible rfl)) ?_;try simp only [qaa])
  refine Plan.nil ?_
  refine qad 12 (by kernel_rfl) (by simp only [qab];rfl) (fun K hK => ?_)
  go_simp
  (go_at_call 84;refine (WA.out _ (by first | assumption | exact Keeps.refl _ | exact (Keeps.refl _).drew | exact Keeps.drew (by assumption))).mono ?_;rintro e w5 ⟨rfl,k5⟩)
  try go_wp2_with fail
  refine hK.out _ _ ?_ (fun hHeld => ?_)
  ·first | assumption | exact Keeps.trans (by assumption) (by assumption)
  clear hK K
  try simp only [qaa]
  refine Plan.go [13,14,15,16,17,18,19,20,21,22,23,24,25,26] ?_
  iterate 14 (refine qac (by simp only [qab];rfl) (by kernel_rfl) (by exact fun _ _ _ h=>h) (by rfl) (by assumption) (fun w _=>by go_simp;try (with_reducible rfl)) ?_;try simp only [qaa])
  refine Plan.nil ?_
  refine wpAnyH_done (by kernel_rfl) ?_ _
  go_wp2
  go_meet
  exact ⟨by rw [hr],by first | assumption | exact (Keeps.refl _).drew⟩
 case rest =>
 obtain ⟨rfl,kx⟩:=hcut
 generalize wc=wx at *
 clear WA TC LC Hbad Hz
 cases bad
 rotate_left
 ·have HN:Hid (qcy s ⟨ck,cn,cp,j,cb⟩ t=5):=HN0.out
  have AE:=A0.out.keeps kx
  obtain ⟨_,o1,o2⟩:=AE.g.var.box
  dsimp only [syc] at o1
  obtain ⟨_,r1,r2⟩:=AE.r
  go_wp2
  exact AE.ret HN.out (fun h=>absurd h (by decide)) rfl (fun Q D=>by simp [results,Tryz.results87,go_sem,D])
 have BO:Hid (∀ w',Keeps Z w'->Calls Tryz.prog 152 #[.slice (some ⟨tb,0,none⟩) tn tcap,.slice a' l.waits.length cap'] w' fun e w''=>e = .returned (.int .i64 bi) /\ Keeps w' w''):=fun w' kk=>by
  have:=qlS (HS.out.keeps kk).onT a' cap' l.waits HWL.out (HW.out.keeps kk)
  rw [Hbi.out] at this
  exact this
 have LF:Hid (∀ w',Keeps Z w'->Calls Tryz.prog 151 #[.slice (some ⟨lb,loff,none⟩) ln lcap,.int .i64 j,.int .i64 cn,.int .i64 bi] w' fun e w''=>∃ u us,e = .returned (.tuple #[u,.bool (qbv s.locks j cn bi)]) /\ Mine w'' w'.heap.size w''.heap.size u us (qaX s.locks j cn bi) /\ Keeps w' w''):=fun w' kk=>by
  have O:=HS.out.onL.keeps kk
  have:=qk7 (some ⟨lb,loff,none⟩) lcap s.locks j cn bi w' O.size O.lks
  rw [O.len] at this
  exact this
 go_upto_region 5 with fail
 refine qk0 21 (S:=(fun w'=>Keeps Z w')) (by kernel_rfl) ?_ (fun hHeld => ?_)
 ·exact kx.drew
 refine Plan.go [0,1,2,3,4,5,6,7,8,9,10,11,12,13,14] ?_
 iterate 15 (refine latL (by simp only [qab];rfl) (by kernel_rfl) (by exact fun _ _ _ h=>h) (by rfl) (by assumption) (fun w _=>by go_simp;try (with_reducible rfl)) ?_;try simp only [qaa])
 refine Plan.nil ?_
 refine qgJ (i:=15) (by kernel_rfl) (by simp only [List.getElem?_toArray,List.getElem?_cons_succ,List.getElem?_cons_zero];rfl) (fun K hK => ?_)
 go_simp
 first
  | (go_at_call 152;refine (BO.out _ (by assumption)).mono ?_;rintro e w7 ⟨rfl,k7⟩;have K7:Keeps Z w7:=Keeps.trans (by assumption) k7)
  | (go_at_call 151;refine (LF.out _ (by assumption)).mono ?_;rintro e w8 ⟨u8,us8,rfl,M8,k8⟩;obtain ⟨a8,c8,e8,-,-⟩:=M8.lks;obtain ⟨m8,Hm8⟩:∃ m,Hid ((qaX s.locks j cn bi).length=m):=⟨_,rfl⟩;rw [Hm8.out] at e8;subst e8;have HM8:Hid (Mine w8 w7.heap.size w8.heap.size (Value.slice a8 m8 c8) us8 (qaX s.locks j cn bi)):=M8;clear M8)
 try go_wp2_with fail
 refine hK.out _ _ ?_ (fun hHeld => ?_)
 ·first | assumption | exact Keeps.trans (by assumption) (by assumption)
 clear hK K
 try simp only [qaa]
 refine qgJ (i:=16) (by kernel_rfl) (by simp only [List.getElem?_toArray,List.getElem?_cons_succ,List.getElem?_cons_zero];rfl) (fun K hK => ?_)
 go_simp
 first
  | (go_at_call 152;refine (BO.out _ (by assumption)).mono ?_;rintro e w7 ⟨rfl,k7⟩;have K7:Keeps Z w7:=Keeps.trans (by assumption) k7)
  | (go_at_call 151;refine (LF.out _ (by assumption)).mono ?_;rintro e w8 ⟨u8,us8,rfl,M8,k8⟩;obtain ⟨a8,c8,e8,-,-⟩:=M8.lks;obtain ⟨m8,Hm8⟩:∃ m,Hid ((qaX s.locks j cn bi).length=m):=⟨_,rfl⟩;rw [Hm8.out] at e8;subst e8;have HM8:Hid (Mine w8 w7.heap.size w8.heap.size (Value.slice a8 m8 c8) us8 (qaX s.locks j cn bi)):=M8;clear M8)
 try go_wp2_with fail
 refine hK.out _ _ ?_ (fun hHeld => ?_)
 ·first | assumption | exact Keeps.trans (by assumption) (by assumption)
 clear hK K
 try simp only [qaa]
 refine Plan.go [17,18] ?_
 iterate 2 (refine latL (by simp only [qab];rfl) (by kernel_rfl) (by exact fun _ _ _ h=>h) (by rfl) (by assumption) (fun w _=>by go_simp;try (with_reducible rfl)) ?_;try simp only [qaa])
 refine Plan.nil ?_
 refine qkY (i:=19) (v := ?_) (by simp only [List.getElem?_toArray,List.getElem?_cons_succ,List.getElem?_cons_zero];rfl) (by kernel_rfl) (by kernel_rfl) (by kernel_rfl) (by kernel_rfl) (by exact fun _ _ _ h=>h) (Or.inl ⟨by rfl,?_⟩) (by assumption) ?_
 rotate_left
 ·(intro w _;go_simp;try (with_reducible rfl))
 try simp only [qaa]
 refine Plan.go [20] ?_
 iterate 1 (refine latL (by simp only [qab];rfl) (by kernel_rfl) (by exact fun _ _ _ h=>h) (by rfl) (by assumption) (fun w _=>by go_simp;try (with_reducible rfl)) ?_;try simp only [qaa])
 refine Plan.nil ?_
 refine qkZ (by kernel_rfl) (by simp only [List.getElem?_toArray,List.getElem?_cons_succ,List.getElem?_cons_zero];rfl) (by kernel_rfl) (fun K hK => ?_)
 have K8:Keeps Z w8:=(by assumption);obtain ⟨_,p1,p2⟩:=(A0.out.keeps K8).g.var.box;dsimp only [syc] at p1
 go_simp
 try go_wp2_with fail
 refine hK.out _ _ ?_
 clear hK K
 try simp only [qaa]
 have HN:Hid (qcy s ⟨ck,cn,cp,j,cb⟩ t=0):=HN0.out
 have AN:Hid (AskR w lo ⟨⟨some ⟨tb,0,none⟩,tn,tcap⟩,⟨some ⟨lb,loff,none⟩,ln,lcap⟩,⟨ga,gn,gcap⟩,⟨fa,fn,fcap⟩,⟨ra,rn,rcap⟩⟩ vs (w8.setCell ⟨w.heap.size,3,none⟩ (.slice a8 m8 c8)) w.heap.size (w.heap.size+2) ⟨⟨some ⟨tb,0,none⟩,tn,tcap⟩,⟨a8,m8,c8⟩,⟨ga,gn,gcap⟩,⟨fa,fn,fcap⟩,⟨ra,rn,rcap⟩⟩ us8 { (s:Sy) with locks:=qaX s.locks j cn bi }):=(A0.out.keeps K7).locks k8 (x:=⟨a8,m8,c8⟩) HM8.out
 clear p1 p2 BO LF hb0 hc0
 generalize w8.setCell ⟨w.heap.size,3,none⟩ (.slice a8 m8 c8)=X at *
 have AE:=AN.out
 obtain ⟨_,o1,o2⟩:=AE.g.var.box
 dsimp only [syc] at o1
 obtain ⟨_,r1,r2⟩:=AE.r
 go_wp2
 exact AE.ret HN.out (fun _=>HC0.out.symm) rfl (fun Q D=>by simp [results,Tryz.results87,go_sem,D])
end Go.Proofs.YteagpjlgjfaclaaGreatDoor
