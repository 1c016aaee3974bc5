/-
  Calls: what is done of a right call: tasks that are made, t
-/
import Derived.Test.YteagpjlgjfaclaaGreatDoorCallMove
import Derived.Test.YteagpjlgjfaclaaGreatDoorCallNew
import Derived.Test.YteagpjlgjfaclaaGreatDoorSysTick
namespace Go.Proofs.YteagpjlgjfaclaaGreatDoor
set_option maxRecDepth 100000
open Go.RowKit
attribute [local go_sem] aa.refl aa.alloc aa.drew aa.drewN
set_option linter.unusedSimpArgs false in
set_option maxHeartbeats 8000000 in
theorem Bb {w:World} {lo:Nat} {v:Sv} {vs:List Lv} {s:Sy} (h:ay w lo v vs s) (hl:lo <= w.heap.size) (R:cx s) (c:Cl) (h3:c.kind <= 3) :
  Calls Tryz.prog 39 #[.agg (ae s v),ck c] w (eQ w lo v vs (dv s c) (ee s c)):=by
 obtain ⟨⟨ta,tn,ag⟩,⟨la,ln,ah⟩,⟨ga,gn,ai⟩,⟨fa,fn,aj⟩,⟨ra,rn,ao⟩⟩:=v
 have HN:Hid (dv s c=eJ s c):=by show _=_;unfold dv;rw [if_pos h3]
 have HC:Hid (ee s c=im s c):=by show _=_;unfold ee;rw [if_pos h3]
 have hd3:decide (c.kind <= 3)=true:=by simpa using h3
 obtain ⟨dj,dx,kZ⟩:=et h hl c
 have C0:Hid (aq _ (w.heap.size+1) (cc c)):=dx
 have A0:Hid (aQ w lo _ vs _ w.heap.size (w.heap.size+2) _ vs s):=dj
 have HS:Hid (aA _ _ s):=(h.on (by have:=R.small;omega)).keeps kZ
 clear dj dx h
 go_enter Tryz.func39,Tryz.ntmps39
 go_upto_region 2 with fail
 change Code.wp _ _ _ _ (cO w ⟨⟨ta,tn,ag⟩,⟨la,ln,ah⟩,⟨ga,gn,ai⟩,⟨fa,fn,aj⟩,⟨ra,rn,ao⟩⟩ s c)
 generalize cO w ⟨⟨ta,tn,ag⟩,⟨la,ln,ah⟩,⟨ga,gn,ai⟩,⟨fa,fn,aj⟩,⟨ra,rn,ao⟩⟩ s c=Z at *
 have hb0:∀ w',aa Z w'->∀ q,w'.cell? ⟨w.heap.size,q,none⟩=(ae s ⟨⟨ta,tn,ag⟩,⟨la,ln,ah⟩,⟨ga,gn,ai⟩,⟨fa,fn,aj⟩,⟨ra,rn,ao⟩⟩)[q]?:=fun w' k=>(A0.out.g.var.box.keeps k).cells
 dsimp only [ae] at hb0
 have hc0:∀ w',aa Z w'->∀ q,w'.cell? ⟨w.heap.size+1,q,none⟩=(cc c)[q]?:=fun w' k=>(C0.out.keeps k).cells
 have AP:=A0.out
 go_wp2_with (go_at_call 82;refine (Bc A0.out.g.var.own (Nat.le_trans hl kZ.size) R c).mono ?_;rintro e w6 ⟨s6,v6,eD,rfl,hs6,g6⟩;obtain ⟨⟨aZ,bd,bS⟩,⟨bg,bh,bT⟩,⟨bj,bk,bU⟩,⟨fa6,bm,bV⟩,⟨bn,bp,bW⟩⟩:=v6;obtain ⟨P6,D6,G6⟩:=AP.pass g6;obtain ⟨_,r1,r2⟩:=P6)
 change bodyPost _ _ _ _ _ (putC w6 (w.heap.size+2) 0 (ae (s6:Sy) ⟨⟨aZ,bd,bS⟩,⟨bg,bh,bT⟩,⟨bj,bk,bU⟩,⟨fa6,bm,bV⟩,⟨bn,bp,bW⟩⟩).toList)
 generalize putC w6 (w.heap.size+2) 0 (ae (s6:Sy) ⟨⟨aZ,bd,bS⟩,⟨bg,bh,bT⟩,⟨bj,bk,bU⟩,⟨fa6,bm,bV⟩,⟨bn,bp,bW⟩⟩).toList=Q at D6 G6 ⊢
 exact bodyPost_ret (v := .tuple #[.agg (ae (s6:Sy) ⟨⟨aZ,bd,bS⟩,⟨bg,bh,bT⟩,⟨bj,bk,bU⟩,⟨fa6,bm,bV⟩,⟨bn,bp,bW⟩⟩),.int .i64 (eJ s c)]) (by simp [results,Tryz.results39,go_sem,D6.cells]) rfl (eQ.of HN.out (fun e=>by rw [HC.out];exact hs6 e) G6)
set_option linter.unusedSimpArgs false in
set_option maxHeartbeats 8000000 in
theorem Bd {w:World} {lo:Nat} {v:Sv} {vs:List Lv} {s:Sy} (h:ay w lo v vs s) (hl:lo <= w.heap.size) (R:cx s) (c:Cl) (h4:decide (c.kind <= 3)=false) (h11:(c.kind==11)=false) (hth:ct s.tasks c.no=false) :
  Calls Tryz.prog 39 #[.agg (ae s v),ck c] w (eQ w lo v vs (dv s c) (ee s c)):=by
 obtain ⟨⟨ta,tn,ag⟩,⟨la,ln,ah⟩,⟨ga,gn,ai⟩,⟨fa,fn,aj⟩,⟨ra,rn,ao⟩⟩:=v
 have HN:Hid (dv s c=2):=Be h4 h11 hth
 obtain ⟨pa,eB⟩:∃ z,Hid (dc s.tasks c.no=z):=⟨_,rfl⟩
 have JV:pa < 0:=by unfold ct at hth;rw [eB.out] at hth;simpa using hth
 obtain ⟨dj,dx,kZ⟩:=et h hl c
 have C0:Hid (aq _ (w.heap.size+1) (cc c)):=dx
 have A0:Hid (aQ w lo _ vs _ w.heap.size (w.heap.size+2) _ vs s):=dj
 have HS:Hid (aA _ _ s):=(h.on (by have:=R.small;omega)).keeps kZ
 clear dj dx h
 go_enter Tryz.func39,Tryz.ntmps39
 go_wp2_with fail
 change Calls _ _ _ (cO w ⟨⟨ta,tn,ag⟩,⟨la,ln,ah⟩,⟨ga,gn,ai⟩,⟨fa,fn,aj⟩,⟨ra,rn,ao⟩⟩ s c) _
 generalize cO w ⟨⟨ta,tn,ag⟩,⟨la,ln,ah⟩,⟨ga,gn,ai⟩,⟨fa,fn,aj⟩,⟨ra,rn,ao⟩⟩ s c=Z at *
 have hb0:∀ w',aa Z w'->∀ q,w'.cell? ⟨w.heap.size,q,none⟩=(ae s ⟨⟨ta,tn,ag⟩,⟨la,ln,ah⟩,⟨ga,gn,ai⟩,⟨fa,fn,aj⟩,⟨ra,rn,ao⟩⟩)[q]?:=fun w' k=>(A0.out.g.var.box.keeps k).cells
 dsimp only [ae] at hb0
 have hc0:∀ w',aa Z w'->∀ q,w'.cell? ⟨w.heap.size+1,q,none⟩=(cc c)[q]?:=fun w' k=>(C0.out.keeps k).cells
 refine (HS.out.gF.aU c.no eB.out (aa.refl _)).mono ?_
 rintro e w1 ⟨rfl,k1⟩
 have AE:=A0.out.keeps k1
 obtain ⟨_,o1,o2⟩:=AE.g.var.box
 dsimp only [ae] at o1
 obtain ⟨_,r1,r2⟩:=AE.r
 go_wp2
 exact AE.ret HN.out (fun h=>absurd h (by decide)) rfl (fun Q D=>by simp [results,Tryz.results39,go_sem,D])
set_option linter.unusedSimpArgs false in
set_option maxHeartbeats 8000000 in
theorem Bf {w:World} {lo:Nat} {v:Sv} {vs:List Lv} {s:Sy} (h:ay w lo v vs s) (hl:lo <= w.heap.size) (R:cx s) (cn cp ca cb:Int) :
  Calls Tryz.prog 39 #[.agg (ae s v),ck ⟨11,cn,cp,ca,cb⟩] w (eQ w lo v vs (dv s ⟨11,cn,cp,ca,cb⟩) (ee s ⟨11,cn,cp,ca,cb⟩)):=by
 obtain ⟨⟨ta,tn,ag⟩,⟨la,ln,ah⟩,⟨ga,gn,ai⟩,⟨fa,fn,aj⟩,⟨ra,rn,ao⟩⟩:=v
 obtain ⟨oT,kn⟩:∃ z,Hid (kO s ca=z):=⟨_,rfl⟩
 obtain ⟨iN,kP⟩:∃ z,Hid (kp s ca=z):=⟨_,rfl⟩
 have hsb:=kQ.2 R
 have dJ:Hid (dv s ⟨11,cn,cp,ca,cb⟩=if !aH ca 1 50 then 1 else if oT < ca then 4 else 0):=by
  show _=_
  rw [<- kn.out]
  unfold dv kO
  rw [hsb]
  rfl
 have kR:Hid (ee s ⟨11,cn,cp,ca,cb⟩=iN):=by
  show _=_
  rw [<- kP.out]
  unfold ee kp
  rw [hsb]
  rfl
 obtain ⟨dj,dx,kZ⟩:=et h hl ⟨11,cn,cp,ca,cb⟩
 have C0:Hid (aq _ (w.heap.size+1) (cc ⟨11,cn,cp,ca,cb⟩)):=dx
 have A0:Hid (aQ w lo _ vs _ w.heap.size (w.heap.size+2) _ vs s):=dj
 have HS:Hid (aA _ _ s):=(h.on (by have:=R.small;omega)).keeps kZ
 clear dj dx h
 go_enter Tryz.func39,Tryz.ntmps39
 go_wp2_with fail
 change Calls _ _ _ (cO w ⟨⟨ta,tn,ag⟩,⟨la,ln,ah⟩,⟨ga,gn,ai⟩,⟨fa,fn,aj⟩,⟨ra,rn,ao⟩⟩ s ⟨11,cn,cp,ca,cb⟩) _
 generalize cO w ⟨⟨ta,tn,ag⟩,⟨la,ln,ah⟩,⟨ga,gn,ai⟩,⟨fa,fn,aj⟩,⟨ra,rn,ao⟩⟩ s ⟨11,cn,cp,ca,cb⟩=Z at *
 have hb0:∀ w',aa Z w'->∀ q,w'.cell? ⟨w.heap.size,q,none⟩=(ae s ⟨⟨ta,tn,ag⟩,⟨la,ln,ah⟩,⟨ga,gn,ai⟩,⟨fa,fn,aj⟩,⟨ra,rn,ao⟩⟩)[q]?:=fun w' k=>(A0.out.g.var.box.keeps k).cells
 dsimp only [ae] at hb0
 have hc0:∀ w',aa Z w'->∀ q,w'.cell? ⟨w.heap.size+1,q,none⟩=(cc ⟨11,cn,cp,ca,cb⟩)[q]?:=fun w' k=>(C0.out.keeps k).cells
 refine (bq _ _ _ _).mono ?_
 rintro e w' ⟨rfl,hw'⟩
 have hw2:=hw'.symm
 subst hw2
 cases c1:aH ca 1 50
 ·have HN:Hid (dv s ⟨11,cn,cp,ca,cb⟩=1):=by show _=_;rw [dJ.out,c1];rfl
  have AE:=A0.out
  obtain ⟨_,o1,o2⟩:=AE.g.var.box
  dsimp only [ae] at o1
  obtain ⟨_,r1,r2⟩:=AE.r
  go_wp2
  exact AE.ret HN.out (fun h=>absurd h (by decide)) rfl (fun Q D=>by simp [results,Tryz.results39,go_sem,D])
 have ST:Hid (Calls Tryz.prog 83 #[.agg (ae s ⟨⟨ta,tn,ag⟩,⟨la,ln,ah⟩,⟨ga,gn,ai⟩,⟨fa,fn,aj⟩,⟨ra,rn,ao⟩⟩),.int .i64 ca] Z fun e w'=>∃ v' vs',e = .returned (.tuple #[.agg (ae iN v'),.int .i64 oT]) /\ ay w' Z.heap.size v' vs' iN /\ aa Z w'):=by
  have:=Bg HS.out ca
  rw [kn.out,kP.out] at this
  exact this
 go_upto_region 7 with (go_at_call 83;refine ST.out.mono ?_;rintro e w6 ⟨v6,eD,rfl,o6,k6⟩;obtain ⟨⟨aZ,bd,bS⟩,⟨bg,bh,bT⟩,⟨bj,bk,bU⟩,⟨fa6,bm,bV⟩,⟨bn,bp,bW⟩⟩:=v6)
 have K7:aa Z (w6.alloc (.cells (ae (iN:Sy) ⟨⟨aZ,bd,bS⟩,⟨bg,bh,bT⟩,⟨bj,bk,bU⟩,⟨fa6,bm,bV⟩,⟨bn,bp,bW⟩⟩) 30)):=k6.alloc _
 have B7:Hid (aq (w6.alloc (.cells (ae (iN:Sy) ⟨⟨aZ,bd,bS⟩,⟨bg,bh,bT⟩,⟨bj,bk,bU⟩,⟨fa6,bm,bV⟩,⟨bn,bp,bW⟩⟩) 30)) w6.heap.size (ae (iN:Sy) ⟨⟨aZ,bd,bS⟩,⟨bg,bh,bT⟩,⟨bj,bk,bU⟩,⟨fa6,bm,bV⟩,⟨bn,bp,bW⟩⟩)):=aq.new _ _ _
 have O7:Hid (ay (w6.alloc (.cells (ae (iN:Sy) ⟨⟨aZ,bd,bS⟩,⟨bg,bh,bT⟩,⟨bj,bk,bU⟩,⟨fa6,bm,bV⟩,⟨bn,bp,bW⟩⟩) 30)) Z.heap.size ⟨⟨aZ,bd,bS⟩,⟨bg,bh,bT⟩,⟨bj,bk,bU⟩,⟨fa6,bm,bV⟩,⟨bn,bp,bW⟩⟩ eD iN):=o6.keeps ((aa.refl _).alloc _)
 change Code.wp _ _ _ _ (w6.alloc (.cells (ae (iN:Sy) ⟨⟨aZ,bd,bS⟩,⟨bg,bh,bT⟩,⟨bj,bk,bU⟩,⟨fa6,bm,bV⟩,⟨bn,bp,bW⟩⟩) 30))
 clear o6 k6
 generalize w6.alloc (.cells (ae (iN:Sy) ⟨⟨aZ,bd,bS⟩,⟨bg,bh,bT⟩,⟨bj,bk,bU⟩,⟨fa6,bm,bV⟩,⟨bn,bp,bW⟩⟩) 30)=X at *
 generalize w6.heap.size=JW at *
 cases c2:decide (oT < ca)
 rotate_left
 ·have c2':oT < ca:=of_decide_eq_true c2
  have HN:Hid (dv s ⟨11,cn,cp,ca,cb⟩=4):=by show _=_;rw [dJ.out,c1];simp [c2']
  have AE:=A0.out.keeps K7
  obtain ⟨_,o1,o2⟩:=AE.g.var.box
  dsimp only [ae] at o1
  obtain ⟨_,r1,r2⟩:=AE.r
  go_wp2
  exact AE.ret HN.out (fun h=>absurd h (by decide)) rfl (fun Q D=>by simp [results,Tryz.results39,go_sem,D])
 have c2':¬ oT < ca:=of_decide_eq_false c2
 have HN:Hid (dv s ⟨11,cn,cp,ca,cb⟩=0):=by show _=_;rw [dJ.out,c1];simp [c2']
 have GF:Goes Z lo ⟨⟨ta,tn,ag⟩,⟨la,ln,ah⟩,⟨ga,gn,ai⟩,⟨fa,fn,aj⟩,⟨ra,rn,ao⟩⟩ vs X ⟨⟨aZ,bd,bS⟩,⟨bg,bh,bT⟩,⟨bj,bk,bU⟩,⟨fa6,bm,bV⟩,⟨bn,bp,bW⟩⟩ eD iN:=Goes.fresh O7.out K7 (Nat.le_trans hl kZ.size)
 obtain ⟨P6,D6,G6⟩:=A0.out.pass GF
 obtain ⟨_,r1,r2⟩:=P6
 obtain ⟨_,b1,b2⟩:=B7.out
 dsimp only [ae] at b1
 go_wp2
 change bodyPost _ _ _ _ _ (putC X (w.heap.size+2) 0 (ae (iN:Sy) ⟨⟨aZ,bd,bS⟩,⟨bg,bh,bT⟩,⟨bj,bk,bU⟩,⟨fa6,bm,bV⟩,⟨bn,bp,bW⟩⟩).toList)
 generalize putC X (w.heap.size+2) 0 (ae (iN:Sy) ⟨⟨aZ,bd,bS⟩,⟨bg,bh,bT⟩,⟨bj,bk,bU⟩,⟨fa6,bm,bV⟩,⟨bn,bp,bW⟩⟩).toList=Q at D6 G6 ⊢
 exact bodyPost_ret (v := .tuple #[.agg (ae (iN:Sy) ⟨⟨aZ,bd,bS⟩,⟨bg,bh,bT⟩,⟨bj,bk,bU⟩,⟨fa6,bm,bV⟩,⟨bn,bp,bW⟩⟩),.int .i64 0]) (by simp [results,Tryz.results39,go_sem,D6.cells]) rfl (eQ.of HN.out (fun _=>kR.out.symm) G6)
end Go.Proofs.YteagpjlgjfaclaaGreatDoor
