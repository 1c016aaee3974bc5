/-
  Calls: which are right, and the walk of FnExactCallOk, over
  A task is put among none: the model's TaskPut of no row at
  The system: of the same processor.
-/
import Derived.Test.YteagpjlgjfaclaaGreatDoorCallSpec
import Derived.Test.YteagpjlgjfaclaaGreatDoorTaskPut
import Derived.Test.YteagpjlgjfaclaaGreatDoorSysSet
import Derived.Test.YteagpjlgjfaclaaGreatDoorSysShares
import Derived.Deep.RegionHeld3
namespace Go.Proofs.YteagpjlgjfaclaaGreatDoor
set_option maxRecDepth 100000
open Go.RowKit
attribute [local go_sem] aa.refl aa.alloc aa.drew aa.drewN
section
attribute [local go_sem high] vD
set_option maxHeartbeats 2000000 in
theorem Cg (c:Cl) (w:World) :
  Calls Tryz.prog 38 #[ck c] w fun e w'=>e = .returned (.bool (ef c)) /\ aa w w':=by
 have kW:aa w (w.alloc (.cells (cc c) 32)):=(aa.refl _).alloc _
 have r1:=dA w (cc c) 32
 cases b:aH c.kind 1 11
 ·have Hr:Hid (ef c=false):=by show _=_;simp [ef,b]
  go_enter Tryz.func38,Tryz.ntmps38
  go_wp2_with fail
  generalize w.alloc (.cells (cc c) 32)=W at *
  refine wp_region_held_drew (S:=(fun w'=>aa W w')) (by kernel_rfl) ?_ (fun hHeld => ?_)
  ·exact (aa.refl W).drew
  refine ad.go [0,1] ?_
  iterate 2 (refine aM (h := ?_);try simp only [au])
  refine ad.nil ?_
  refine aR 2 (h:=fun K hK => ?_)
  go_simp
  first
   | (go_at_call 27;refine (bq _ _ _ _).mono ?_;rintro e w' ⟨rfl,hw1⟩;have hw2:=hw1.symm;subst hw2;rw [b])
   | (go_at_call 81;refine (sG c _).mono ?_;rintro e w1 ⟨rfl,k1⟩)
  try go_wp2_with fail
  refine hK.out _ _ ?_ fun hHeld => ?_
  ·first | assumption | exact aa.trans (by assumption) (by assumption)
  clear hK K
  try simp only [au]
  refine di 3 (h := ?_)
  try simp only [au]
  refine ad.go [4,5,6,7] ?_
  iterate 4 (refine dK (h := ?_);try simp only [au])
  refine ad.nil ?_
  refine ad.go [8,9] ?_
  iterate 2 (refine aM (h := ?_);try simp only [au])
  refine ad.nil ?_
  refine wpAnyH_done (by kernel_rfl) ?_ _
  go_wp2
  go_ret
  exact ⟨by rw [Hr.out];rfl,kW.trans (by assumption)⟩
 ·have Hr:Hid (ef c=fh c (dU c)):=by show _=_;simp [ef,b]
  go_enter Tryz.func38,Tryz.ntmps38
  go_wp2_with fail
  generalize w.alloc (.cells (cc c) 32)=W at *
  refine wp_region_held_drew (S:=(fun w'=>aa W w')) (by kernel_rfl) ?_ (fun hHeld => ?_)
  ·exact (aa.refl W).drew
  refine ad.go [0,1] ?_
  iterate 2 (refine aM (h := ?_);try simp only [au])
  refine ad.nil ?_
  refine aR 2 (h:=fun K hK => ?_)
  go_simp
  first
   | (go_at_call 27;refine (bq _ _ _ _).mono ?_;rintro e w' ⟨rfl,hw1⟩;have hw2:=hw1.symm;subst hw2;rw [b])
   | (go_at_call 81;refine (sG c _).mono ?_;rintro e w1 ⟨rfl,k1⟩)
  try go_wp2_with fail
  refine hK.out _ _ ?_ fun hHeld => ?_
  ·first | assumption | exact aa.trans (by assumption) (by assumption)
  clear hK K
  try simp only [au]
  refine ad.go [3,4,5] ?_
  iterate 3 (refine aM (h := ?_);try simp only [au])
  refine ad.nil ?_
  refine aR 6 (h:=fun K hK => ?_)
  go_simp
  first
   | (go_at_call 27;refine (bq _ _ _ _).mono ?_;rintro e w' ⟨rfl,hw1⟩;have hw2:=hw1.symm;subst hw2;rw [b])
   | (go_at_call 81;refine (sG c _).mono ?_;rintro e w1 ⟨rfl,k1⟩)
  try go_wp2_with fail
  refine hK.out _ _ ?_ fun hHeld => ?_
  ·first | assumption | exact aa.trans (by assumption) (by assumption)
  clear hK K
  try simp only [au]
  refine ad.go [7,8,9] ?_
  iterate 3 (refine aM (h := ?_);try simp only [au])
  refine ad.nil ?_
  refine wpAnyH_done (by kernel_rfl) ?_ _
  go_wp2
  go_ret
  exact ⟨by rw [Hr.out];rfl,kW.trans (by assumption)⟩
def Ch:Prop:=∀ (c:Cl) (w:World),Calls Tryz.prog 35 #[ck c] w fun e w'=>e = .returned (.bool (ef c)) /\ aa w w'
end
set_option maxHeartbeats 4000000 in
theorem Ci (t:ar) (w:World) :
  Calls Tryz.prog 99 #[.slice none 0 0,tk t] w fun e w'=>∃ v,e = .returned (.tuple #[v,.bool (dD [] t)]) /\ dr w' w.heap.size v (bY [] t) /\ aa w w':=by
 go_enter Tryz.func99,Tryz.ntmps99
 go_wp2_with fail
 have kW:aa w (w.alloc (.cells (tc t) 43)):=(aa.refl _).alloc _
 have B0:=aq.new w (tc t) 43
 refine (nU none 0 [] _ (by unfold maxLen;simp) (.inl rfl)).mono ?_
 rintro e w1 ⟨rfl,k1⟩
 have B1:=B0.keeps k1
 have iw:=kW.trans k1
 clear kW B0 k1
 have hb:dz []=true:=by rfl
 rw [hb]
 go_wp2_with fail
 have kz:aa w1 (w1.alloc (.cells #[] 43)):=(aa.refl _).alloc _
 have dC:dr (w1.alloc (.cells #[] 43)) w1.heap.size (.slice (some ⟨w1.heap.size,0,none⟩) 0 0) []:=Own.new 43 14 tc w1 (Nat.le_refl _)
 generalize w1.alloc (.cells #[] 43)=W at *
 have b0:∀ w',aa w1 w'->∀ k,w'.cell? ⟨w.heap.size,k,none⟩=(tc t)[k]?:=fun w' h=>(B1.keeps h).cells
 clear B1
 go_loopw [6,7,8] (fun v p i wr=>v = .slice (some ⟨w1.heap.size,0,none⟩) 0 0 /\ i = .int .i64 0 /\ p = .bool false /\ wr=W) (fun _ _ _ _=>0)
 case atStart=>exact ⟨rfl,rfl,rfl,rfl⟩
 case round =>
  obtain ⟨rfl,rfl,rfl,rfl⟩:=hrel
  go_wp2_with (at_builtin;(refine ib rfl _ _ 24 rfl w1 43 (tk ar.zero) 14 112 tc Tryz.underlying24 (by kernel_rfl) rfl (by decide) cF gV _ [] rfl wr dC kz ((aa.refl _).alloc _) t _ 1 (aq.new _ _ _) rfl ?c1 ?c2 ?_))
  case c1=>unfold maxLen;simp
  case c2=>simp
  intro v2 w2 hown2 hk2 _
  have hown:dr w2 w1.heap.size v2 [t]:=hown2
  clear hown2
  obtain ⟨av,cv,rfl,hlies,hcv,hmv⟩:=hown.slice cF
  go_wp2_with fail
  refine (nU av cv [t] _ (by unfold maxLen;simp) hlies).mono ?_
  rintro e w3 ⟨rfl,k3⟩
  have hown3:=hown.keeps k3
  have jh:=hk2.trans k3
  cases hq:dz [t]
  ·have Hb:Hid (dD [] t=false):=by show _=_;simp [dD,ins,hq]
   have Hp:Hid (bY [] t=[]):=by show _=_;simp [bY,ins,hq]
   clear hown hown3 hlies
   go_wp2_with (at_builtin;(refine pq rfl _ _ 24 rfl w3.heap.size 43 (tk ar.zero) 14 112 tc Tryz.underlying24 (by kernel_rfl) rfl (by decide) cF gV (.slice (some ⟨w3.heap.size,0,none⟩) 0 0) rfl (Own.new 43 14 tc w3 (Nat.le_refl _)) (by simp) [] ⟨none,0,0⟩ (.inl ⟨rfl,rfl,rfl⟩) (.inl rfl) rfl rfl (by simp) (by decide) ?_))
   intro v5 w5 o5 g5 f5
   have HO:Hid (dr w5 w3.heap.size v5 []):=o5
   have K5:aa w3 w5:=((aa.refl w3).alloc _).grown g5 (by intro q hq;simp [Value.ownBlock] at hq;omega)
   clear o5 g5 f5
   go_wp2
   go_ret2
   exact ⟨_,by rw [Hb.out];rfl,by rw [Hp.out];exact Own.base HO.out (iw.trans jh).size,(iw.trans jh).trans K5⟩
  ·have Hb:Hid (dD [] t=true):=by show _=_;simp [dD,ins,hq,hb]
   have Hp:Hid (bY [] t=[t]):=by show _=_;simp [bY,ins,hq,hb]
   go_wp2
   go_ret2
   exact ⟨_,by rw [Hb.out];rfl,by rw [Hp.out];exact Own.base hown3 iw.size,iw.trans jh⟩
set_option maxHeartbeats 8000000 in
theorem Cj {w:World} {v:Sv} {s:Sy} (h:aA w v s) (i no:Int) :
  Calls Tryz.prog 149 #[.agg (ae s v),.int .i64 i,.int .i64 no] w fun e w'=>e = .returned (.bool (ew s i no)) /\ aa w w':=by
 have hm:v.t.n <= 2000000 /\ v.l.n <= 2000000:=by have:=h.size;have:=h.lay.ll;have:=h.lay.tl;have:=lP s.ak;unfold bE at *;omega
 obtain ⟨hm1,hm2⟩:=hm
 have kW:=dw w (.cells (ae s v) 30)
 have hb:=dA w (ae s v) 30
 have hT:Hid (fM (w.alloc (.cells (ae s v) 30)) v.t.a v.t.n v.t.cap s.tasks):=h.gF.keeps kW
 have hL:Hid (On (w.alloc (.cells (ae s v) 30)) v.l.a v.l.n v.l.cap s.ak):=h.gx.keeps kW
 have e1:IntKind.i64.wrap ((v.l.n:Int) - 1)=(v.l.n:Int) - 1:=Go.IntWalk.i64_in _ (by omega)
 have HE:Hid (ew s i no=(aH i 0 ((v.l.n:Int) - 1)&&(ct s.tasks no&&(dY s.ak i.toNat==0||(ct s.tasks (dY s.ak i.toNat)&&(dB s.tasks (dY s.ak i.toNat)).cpu==(dB s.tasks no).cpu))))):=by show _=_;unfold ew;rw [hL.out.len]
 clear h
 obtain ⟨pa,eB⟩:∃ pa,Hid (dc s.tasks no=pa):=⟨_,rfl⟩
 go_enter Tryz.func149,Tryz.ntmps149
 go_wp2_with fail
 generalize w.alloc (.cells (ae s v) 30)=W at *
 refine (hT.out.aU no eB.out (aa.refl _)).mono ?_
 rintro e w1 ⟨rfl,k1⟩
 go_wp2_with fail
 refine (bq _ _ _ _).mono ?_
 rintro e w' ⟨rfl,hw'⟩
 have hw2:=hw'.symm
 subst hw2
 cases c1:aH i 0 ((v.l.n:Int) - 1)
 ·have Hr:Hid (ew s i no=false):=by show _=_;rw [HE.out,c1];rfl
  go_wp2
  go_ret
  exact ⟨by rw [Hr.out];rfl,kW.trans k1⟩
 cases c2:decide (pa < 0)
 rotate_left
 ·have Hr:Hid (ew s i no=false):=by show _=_;rw [HE.out,c1];unfold ct;rw [eB.out,c2];rfl
  go_wp2
  go_ret
  exact ⟨by rw [Hr.out];rfl,kW.trans k1⟩
 have hth:ct s.tasks no=true:=by unfold ct;rw [eB.out,c2];rfl
 obtain ⟨ka,ta,ea,iO,-⟩:=lQ.1 hth
 have fg:Hid (dB s.tasks no=ta):=lR ea iO
 obtain rfl:pa=(ka:Int):=by rw [<- eB.out];exact ea
 have hka:ka < v.t.n:=by have:=cZ iO;rw [hT.out.len] at this;exact this
 have sH:(ka:Int) < (v.t.n:Int):=by omega
 obtain ⟨bt,ot,hat,rt⟩:=hT.out.all (by omega)
 have ra:∀ w',aa W w'->w'.cell? ⟨bt,ot+ka*14+2,none⟩=some (.int .i64 ta.cpu):=fun w' h=>(rt ka ta iO).2 w' h 2 (by omega)
 have RT:Hid (∀ (i:Nat) (t:ar),s.tasks[i]?=some t->∀ w',aa W w'->w'.cell? ⟨bt,ot+i*14+2,none⟩=some (.int .i64 t.cpu)):=fun i t ht w' h=>(rt i t ht).2 w' h 2 (by omega)
 obtain ⟨i0,i1⟩:=dq.1 c1
 obtain ⟨k,rfl⟩:∃ k:Nat,i=(k:Int):=⟨i.toNat,by omega⟩
 obtain ⟨l,hl⟩:=cd (xs:=s.ak) (k:=k) (by rw [hL.out.len];omega)
 obtain ⟨hkn,b,off,a',cap',ha,r0,-,-,-⟩:=hL.out.at hl
 have hki:(k:Int) < (v.l.n:Int):=by omega
 have HE2:Hid (ew s k no=(l.owner==0||(ct s.tasks l.owner&&(dB s.tasks l.owner).cpu==ta.cpu))):=by
  show _=_
  rw [HE.out,c1,hth,Int.toNat_natCast,iP hl,fg.out]
  rfl
 obtain ⟨po,jY⟩:∃ po,Hid (dc s.tasks l.owner=po):=⟨_,rfl⟩
 have TA:Hid (∀ w',aa W w'->Calls Tryz.prog 71 #[.slice v.t.a v.t.n v.t.cap,.int .i64 l.owner] w' fun e w''=>e = .returned (.int .i64 po) /\ aa w' w''):=fun w' h=>hT.out.aU l.owner jY.out h
 rw [hat] at TA
 clear hth ea iO rt eB hl HE
 go_wp2_with fail
 refine wp_region_held_drew (S:=(fun w'=>aa W w')) (by kernel_rfl) ?_ (fun hHeld => ?_)
 ·exact k1.drew
 refine ad.go [0,1,2,3,4,5,6,7] ?_
 iterate 8 (refine aM (h := ?_);try simp only [au])
 refine ad.nil ?_
 refine aR 8 (h:=fun K hK => ?_)
 go_simp
 first
  | (go_at_call 71;refine (TA.out _ k1.drew).mono ?_;rintro e w5 ⟨rfl,k5⟩)
 try go_wp2_with fail
 refine hK.out _ _ ?_ fun hHeld => ?_
 ·exact aa.trans (by assumption) (by assumption)
 clear hK K
 try simp only [au]
 refine di 9 (h := ?_)
 try simp only [au]
 refine wpAnyH_done (by kernel_rfl) ?_ _
 have K5:aa W w5:=by assumption
 clear TA
 cases c3:(l.owner==0)
 rotate_left
 ·have Hr:Hid (ew s k no=true):=by show _=_;rw [HE2.out,c3];rfl
  go_wp2_with fail
  refine wp_region_held_drew (S:=(fun w'=>aa W w')) (by kernel_rfl) ?_ (fun hHeld => ?_)
  ·exact K5.drew
  refine ad.go [0,1,2,3,4,5,6,7] ?_
  iterate 8 (refine aM (h := ?_);try simp only [au])
  refine ad.nil ?_
  refine ad.go [8,9,10,11,12,13,14,15,16,17,18,19,20,21,22,23,24] ?_
  iterate 17 (refine dK (h := ?_);try simp only [au])
  refine ad.nil ?_
  refine ad.go [25,26] ?_
  iterate 2 (refine aM (h := ?_);try simp only [au])
  refine ad.nil ?_
  refine wpAnyH_done (by kernel_rfl) ?_ _
  go_wp2
  go_ret
  exact ⟨by rw [Hr.out];rfl,kW.trans K5.drew⟩
 cases c4:decide (0 <= po)
 ·have Hr:Hid (ew s k no=false):=by
   have:ct s.tasks l.owner=false:=by unfold ct;rw [jY.out];simp only [decide_eq_false_iff_not] at c4;simp;omega
   show _=_
   rw [HE2.out,c3,this];rfl
  go_wp2_with fail
  refine wp_region_held_drew (S:=(fun w'=>aa W w')) (by kernel_rfl) ?_ (fun hHeld => ?_)
  ·exact K5.drew
  refine ad.go [0,1,2,3,4,5,6,7,8,9,10] ?_
  iterate 11 (refine aM (h := ?_);try simp only [au])
  refine ad.nil ?_
  refine ad.go [11,12,13,14,15,16,17,18,19,20,21,22,23] ?_
  iterate 13 (refine dK (h := ?_);try simp only [au])
  refine ad.nil ?_
  refine ad.go [24,25,26] ?_
  iterate 3 (refine aM (h := ?_);try simp only [au])
  refine ad.nil ?_
  refine wpAnyH_done (by kernel_rfl) ?_ _
  go_wp2
  go_ret
  exact ⟨by rw [Hr.out];rfl,kW.trans K5.drew⟩
 have ix:ct s.tasks l.owner=true:=by unfold ct;rw [jY.out];simp only [decide_eq_true_eq] at c4;simp;omega
 obtain ⟨kx,tx,ex,htx,-⟩:=lQ.1 ix
 have pr:Hid (dB s.tasks l.owner=tx):=lR ex htx
 obtain rfl:po=(kx:Int):=by rw [<- jY.out];exact ex
 have hkx:kx < v.t.n:=by have:=cZ htx;rw [hT.out.len] at this;exact this
 have pt:(kx:Int) < (v.t.n:Int):=by omega
 have rx:∀ w',aa W w'->w'.cell? ⟨bt,ot+kx*14+2,none⟩=some (.int .i64 tx.cpu):=fun w' h=>RT.out kx tx htx w' h
 have Hr:Hid (ew s k no=(tx.cpu==ta.cpu)):=by show _=_;rw [HE2.out,c3,ix,pr.out];rfl
 clear ix ex htx jY
 go_wp2_with fail
 refine wp_region_held_drew (S:=(fun w'=>aa W w')) (by kernel_rfl) ?_ (fun hHeld => ?_)
 ·exact K5.drew
 refine ad.go [0,1,2,3,4,5,6,7,8,9,10,11,12,13,14,15,16,17,18,19,20,21,22,23,24,25,26] ?_
 iterate 27 (refine aM (h := ?_);try simp only [au])
 refine ad.nil ?_
 refine wpAnyH_done (by kernel_rfl) ?_ _
 go_wp2
 go_ret
 exact ⟨by rw [Hr.out];rfl,kW.trans K5.drew⟩
end Go.Proofs.YteagpjlgjfaclaaGreatDoor
