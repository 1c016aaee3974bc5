/-
  The program's calls: a lock is handed on.
-/
import Derived.Test.YteagpjlgjfaclaaGreatDoorCallDo0
import Derived.Test.YteagpjlgjfaclaaGreatDoorImplTaskOk
import Derived.Test.YteagpjlgjfaclaaGreatDoorDraw1
import Derived.Test.YteagpjlgjfaclaaGreatDoorFixHeap2
import Derived.Test.YteagpjlgjfaclaaGreatDoorSysNewS
import Derived.Test.YteagpjlgjfaclaaGreatDoorLoneLeaves
namespace Go.Proofs.YteagpjlgjfaclaaGreatDoor
set_option maxRecDepth 100000
open Go.RowKit
attribute [local go_sem] aa.refl aa.alloc aa.drew aa.drewN
def ly (s:Sy) (t:ag):Bool:=t.st==2||decide (0 <= d8 s.af t.no)
set_option linter.unusedSimpArgs false in
set_option maxHeartbeats 8000000 in
theorem JA {w:World} {lo ob:Nat} {v:Sv} {vs:List Lv} {s:Sy} (h:bB w lo ob v vs s) (hsz:bV s <= 1048576) {k:Nat} {t:ag} (ht:s.tasks[k]?=some t) :
  Calls Tryz.prog 166 #[.pointer (some ⟨ob,0,none⟩),.int .i64 k] w fun e w'=>e = .returned (.bool (ly s t)) /\ aa w w':=by
 obtain ⟨⟨ta,tn,ak⟩,⟨la,ln,aj⟩,⟨ga,gn,ao⟩,⟨fa,fn,aq⟩,⟨ra,rn,au⟩⟩:=v
 have hk:k < s.tasks.length:=da ht
 obtain ⟨tb,htb⟩:=h.own.bm hk
 dsimp only at htb
 subst htb
 have lR:Hid (aA w ⟨⟨some ⟨tb,0,none⟩,tn,ak⟩,⟨la,ln,aj⟩,⟨ga,gn,ao⟩,⟨fa,fn,aq⟩,⟨ra,rn,au⟩⟩ s):=h.own.on (by omega)
 have hkn:(k:Int) < (tn:Int):=by have:=lR.out.lay.tl;dsimp only at this;omega
 have AO:tn <= 1048576:=by have:=lR.out.lay.tl;dsimp only at this;unfold bV at hsz;omega
 have T0:∀ w',aa w w'->∀ i,i < 14->w'.cell? ⟨tb,k*14+i,none⟩=(tc t)[i]?:=fun w' kk i hi=>(kk.cells tb _ (h.own.aG (i:=0) (b:=tb) rfl).2).trans ((h.own.aI (rb:=tb) rfl ht).1 i hi)
 have qI:∀ w',aa w w'->w'.cell? ⟨tb,k*14,none⟩=some (.int .i64 t.no):=fun w' kk=>T0 w' kk 0 (by omega)
 have hb0:∀ w',aa w w'->∀ q,w'.cell? ⟨ob,q,none⟩=(ae s ⟨⟨some ⟨tb,0,none⟩,tn,ak⟩,⟨la,ln,aj⟩,⟨ga,gn,ao⟩,⟨fa,fn,aq⟩,⟨ra,rn,au⟩⟩)[q]?:=fun w' kk=>(h.box.keeps kk).cells
 dsimp only [ae] at hb0
 have HV:Hid (bB w lo ob ⟨⟨some ⟨tb,0,none⟩,tn,ak⟩,⟨la,ln,aj⟩,⟨ga,gn,ao⟩,⟨fa,fn,aq⟩,⟨ra,rn,au⟩⟩ vs s):=h
 clear h
 go_enter Tryz.func166,Tryz.ntmps166
 go_upto_region 2 with fail
 have TB:Hid (ai (w.alloc (.cells (tc t) 43)) w.heap.size (tc t)):=ai.new _ _ _
 have kX:=cZ w (.cells (tc t) 43)
 have HS:Hid (aA (w.alloc (.cells (tc t) 43)) ⟨⟨some ⟨tb,0,none⟩,tn,ak⟩,⟨la,ln,aj⟩,⟨ga,gn,ao⟩,⟨fa,fn,aq⟩,⟨ra,rn,au⟩⟩ s):=lR.out.keeps kX
 have HB:Hid (ai (w.alloc (.cells (tc t) 43)) ob (ae s ⟨⟨some ⟨tb,0,none⟩,tn,ak⟩,⟨la,ln,aj⟩,⟨ga,gn,ao⟩,⟨fa,fn,aq⟩,⟨ra,rn,au⟩⟩)):=HV.out.box.keeps kX
 change Code.wp _ _ _ _ (w.alloc (.cells (tc t) 43))
 clear T0 qI hb0 lR
 generalize w.alloc (.cells (tc t) 43)=X at *
 have rT:∀ w',aa X w'->∀ q,w'.cell? ⟨w.heap.size,q,none⟩=(tc t)[q]?:=fun w' k=>(TB.out.keeps k).cells
 have rB:∀ w',aa X w'->∀ q,w'.cell? ⟨ob,q,none⟩=(ae s ⟨⟨some ⟨tb,0,none⟩,tn,ak⟩,⟨la,ln,aj⟩,⟨ga,gn,ao⟩,⟨fa,fn,aq⟩,⟨ra,rn,au⟩⟩)[q]?:=fun w' k=>(HB.out.keeps k).cells
 dsimp only [ae] at rB
 by_cases h2:t.st=2
 ·have HN:Hid (ly s t=true):=by show ly s t=true;unfold ly;simp [h2]
  have h2':(t.st==2)=true:=by simp [h2]
  refine wp_region_held_drew (S:=(fun w'=>aa X w')) (by kernel_rfl) ?_ (fun hHeld => ?_)
  ·exact (aa.refl X).drew
  refine ad.go [0,1,2,3] ?_
  iterate 4 (refine aJ (h := ?_);try simp only [ar])
  refine ad.nil ?_
  refine ad.go [4,5,6,7,8,9,10,11] ?_
  iterate 8 (refine dB (h := ?_);try simp only [ar])
  refine ad.nil ?_
  refine ad.go [12,13] ?_
  iterate 2 (refine aJ (h := ?_);try simp only [ar])
  refine ad.nil ?_
  refine wpAnyH_done (by kernel_rfl) ?_ _
  go_wp2
  go_ret
  exact ⟨by rw [HN.out];rfl,kX.trans (aa.refl X).drew⟩
 have h2':(t.st==2)=false:=by simp [h2]
 obtain ⟨z,Hz⟩:∃ z,Hid (d8 s.af t.no=z):=⟨_,rfl⟩
 have HN:Hid (ly s t=decide (0 <= z)):=by show ly s t=_;unfold ly;rw [Hz.out,h2'];rfl
 have WA:Hid (∀ w',aa X w'->Calls Tryz.prog 15 #[.slice la ln aj,.int .i64 t.no] w' fun e w''=>e = .returned (.int .i64 z) /\ aa w' w''):=fun w' kk=>by
  have:=Jo la aj s.af t.no w' (by unfold bV at hsz;omega) (HS.out.keeps kk).lay.l
  rw [show s.af.length=ln from HS.out.lay.ll,Hz.out] at this
  exact this
 refine wp_region_held_drew (S:=(fun w'=>aa X w')) (by kernel_rfl) ?_ (fun hHeld => ?_)
 ·exact (aa.refl X).drew
 refine ad.go [0,1,2,3,4,5,6,7,8,9] ?_
 iterate 10 (refine aJ (h := ?_);try simp only [ar])
 refine ad.nil ?_
 refine aO 10 (h:=fun K hK => ?_)
 go_simp
 (go_at_call 15;refine (WA.out _ (by assumption)).mono ?_;rintro e w2 ⟨rfl,k2⟩)
 try go_wp2_with fail
 refine hK.out _ _ ?_ fun hHeld => ?_
 ·exact aa.trans (by assumption) (by assumption)
 clear hK K
 try simp only [ar]
 refine ad.go [11,12,13] ?_
 iterate 3 (refine aJ (h := ?_);try simp only [ar])
 refine ad.nil ?_
 refine wpAnyH_done (by kernel_rfl) ?_ _
 have K2:aa X w2:=by assumption
 go_wp2
 go_ret
 exact ⟨by rw [HN.out];rfl,kX.trans K2⟩
def iM (s:Sy) (c:Cl):Nat:=if !bF s.tasks c.no || !aF c.a 0 ((s.af.length:Int) - 1) then 2 else if ly s (de s.tasks c.no) then 5 else 0
set_option linter.unusedSimpArgs false in
set_option maxHeartbeats 8000000 in
theorem JB {w:World} {lo ob:Nat} {v:Sv} {vs:List Lv} {s:Sy} {er:Nat->Addr} (h:bB w lo ob v vs s) (E:dZ w er) (hsz:bV s <= 1048576) (c:Cl) :
  Calls Tryz.prog 170 #[.pointer (some ⟨ob,0,none⟩),ck c] w fun e w'=>e = .returned (fH er (iM s c)) /\ aa w w':=by
 obtain ⟨⟨ta,tn,ak⟩,⟨la,ln,aj⟩,⟨ga,gn,ao⟩,⟨fa,fn,aq⟩,⟨ra,rn,au⟩⟩:=v
 have kX:=cZ w (.cells (cc c) 32)
 have BC:Hid (ai (w.alloc (.cells (cc c) 32)) w.heap.size (cc c)):=ai.new _ _ _
 have VX:Hid (bB (w.alloc (.cells (cc c) 32)) lo ob ⟨⟨ta,tn,ak⟩,⟨la,ln,aj⟩,⟨ga,gn,ao⟩,⟨fa,fn,aq⟩,⟨ra,rn,au⟩⟩ vs s):=h.keeps kX
 have HE:Hid (dZ (w.alloc (.cells (cc c) 32)) er):=E.keeps kX
 clear h E
 go_enter Tryz.func170,Tryz.ntmps170
 go_upto_region 1 with fail
 change Code.wp _ _ _ _ (w.alloc (.cells (cc c) 32))
 generalize w.alloc (.cells (cc c) 32)=X at *
 have HS:Hid (aA X ⟨⟨ta,tn,ak⟩,⟨la,ln,aj⟩,⟨ga,gn,ao⟩,⟨fa,fn,aq⟩,⟨ra,rn,au⟩⟩ s):=VX.out.own.on (by omega)
 have mG:Hid (s.tasks.length=tn):=HS.out.lay.tl
 have l7:Hid (s.af.length=ln):=HS.out.lay.ll
 have AO:tn <= 1048576:=by rw [<- mG.out];unfold bV at hsz;omega
 have hlm:ln <= 1048576:=by rw [<- l7.out];unfold bV bT at hsz;omega
 have rC:∀ w',aa X w'->∀ q,w'.cell? ⟨w.heap.size,q,none⟩=(cc c)[q]?:=fun w' k=>(BC.out.keeps k).cells
 have rB:∀ w',aa X w'->∀ q,w'.cell? ⟨ob,q,none⟩=(ae s ⟨⟨ta,tn,ak⟩,⟨la,ln,aj⟩,⟨ga,gn,ao⟩,⟨fa,fn,aq⟩,⟨ra,rn,au⟩⟩)[q]?:=fun w' k=>(VX.out.box.keeps k).cells
 dsimp only [ae] at rB
 obtain ⟨n2,vL⟩:∃ n,Hid (dA s.tasks c.no=n):=⟨_,rfl⟩
 have cA:∀ w',aa X w'->Calls Tryz.prog 17 #[.slice ta tn ak,.int .i64 c.no] w' fun e w''=>e = .returned (.int .i64 n2) /\ aa w' w'':=fun w' k=>by
  have:=vM ta ak s.tasks c.no w' (by rw [mG.out];unfold maxLen;omega) (HS.out.keeps k).lay.t
  rw [mG.out,vL.out] at this
  exact this
 refine wp_region_held_drew (S:=(fun w'=>aa X w')) (by kernel_rfl) ?_ (fun hHeld => ?_)
 ·exact (aa.refl X).drew
 refine ad.go [0,1,2,3,4,5] ?_
 iterate 6 (refine aJ (h := ?_);try simp only [ar])
 refine ad.nil ?_
 refine aO 6 (h:=fun K hK => ?_)
 go_simp
 (go_at_call 17;refine (cA _ (by assumption)).mono ?_;rintro e w2 ⟨rfl,k2⟩;clear cA)
 try go_wp2_with fail
 refine hK.out _ _ ?_ fun hHeld => ?_
 ·exact aa.trans (by assumption) (by assumption)
 clear hK K
 try simp only [ar]
 refine cU 7 (h := ?_)
 try simp only [ar]
 refine wpAnyH_done (by kernel_rfl) ?_ _
 have K2:aa X w2:=by assumption
 have tH:Hid (bF s.tasks c.no = !decide (n2 < 0)):=by show _=_;rw [<- vL.out];rfl
 have JC:∀ w',aa w2 w'->∀ q,w'.cell? ⟨w.heap.size,q,none⟩=(cc c)[q]?:=fun w' k=>rC w' (K2.trans k)
 have JD:=fun w' (k:aa w2 w')=>rB w' (K2.trans k)
 clear rC rB k2 hHeld
 go_upto_region 2 with fail
 by_cases h2:n2 < 0
 ·have h2':decide (n2 < 0)=true:=by simp;omega
  have HN:Hid (iM s c=2):=by show iM s c=2;unfold iM;rw [tH.out,h2'];rfl
  have e2:∀ w',aa X w'->w'.cell? ⟨2,0,none⟩=some (.iface 284 (.pointer (some (er 2)))):=fun w' k=>(HE.out.keeps k).var 2 (by omega) (by omega)
  have e2':=e2 w2.drew K2.drew
  refine wp_region_held_drew (S:=(fun w'=>aa w2 w')) (by kernel_rfl) ?_ (fun hHeld => ?_)
  ·exact (aa.refl w2).drew
  refine ad.go [0,1,2] ?_
  iterate 3 (refine aJ (h := ?_);try simp only [ar])
  refine ad.nil ?_
  refine ad.go [3,4,5,6,7,8,9,10] ?_
  iterate 8 (refine dB (h := ?_);try simp only [ar])
  refine ad.nil ?_
  refine ad.go [11,12] ?_
  iterate 2 (refine aJ (h := ?_);try simp only [ar])
  refine ad.nil ?_
  refine wpAnyH_done (by kernel_rfl) ?_ _
  go_wp2
  go_ret
  exact ⟨by rw [HN.out];rfl,kX.trans K2.drew⟩
 have h2':decide (n2 < 0)=false:=by simp;omega
 obtain ⟨z,Hz⟩:∃ z,Hid (aF c.a 0 ((ln:Int) - 1)=z):=⟨_,rfl⟩
 refine wp_region_held_drew (S:=(fun w'=>aa w2 w')) (by kernel_rfl) ?_ (fun hHeld => ?_)
 ·exact (aa.refl w2).drew
 refine ad.go [0,1,2,3,4,5,6,7,8] ?_
 iterate 9 (refine aJ (h := ?_);try simp only [ar])
 refine ad.nil ?_
 refine aO 9 (h:=fun K hK => ?_)
 go_simp
 (go_at_call 186;refine (vI la aj ln c.a _ (by unfold maxLen;omega)).mono ?_;rintro e w3 ⟨rfl,rfl⟩;rw [Hz.out])
 try go_wp2_with fail
 refine hK.out _ _ ?_ fun hHeld => ?_
 ·assumption
 clear hK K
 try simp only [ar]
 refine ad.go [10,11,12] ?_
 iterate 3 (refine aJ (h := ?_);try simp only [ar])
 refine ad.nil ?_
 refine wpAnyH_done (by kernel_rfl) ?_ _
 cases z
 ·have HN:Hid (iM s c=2):=by show iM s c=2;unfold iM;rw [tH.out,h2',l7.out,Hz.out];rfl
  have e2':w2.drew.cell? ⟨2,0,none⟩=some (.iface 284 (.pointer (some (er 2)))):=(HE.out.keeps K2.drew).var 2 (by omega) (by omega)
  go_wp2
  go_ret
  exact ⟨by rw [HN.out];rfl,kX.trans K2.drew⟩
 have hn2:Hid (s.tasks[n2.toNat]?=some (de s.tasks c.no) /\ n2=(n2.toNat:Int)):=by
  obtain ⟨k,ek,⟨t,et⟩,JE⟩:=mW (ts:=s.tasks) (no:=c.no) (by rw [tH.out,h2'];rfl)
  rw [vL.out] at ek
  exact ⟨by rw [ek,JE t et];exact et,by omega⟩
 obtain ⟨r,Hr⟩:∃ r,Hid (ly s (de s.tasks c.no)=r):=⟨_,rfl⟩
 have RA:∀ w',aa w2 w'->Calls Tryz.prog 166 #[.pointer (some ⟨ob,0,none⟩),.int .i64 n2] w' fun e w''=>e = .returned (.bool r) /\ aa w' w'':=fun w' k=>by
  have:=JA (VX.out.keeps (K2.trans k)) hsz hn2.out.1
  rw [Hr.out,<- hn2.out.2] at this
  exact this
 have HN:Hid (iM s c=if r then 5 else 0):=by show iM s c=_;unfold iM;rw [tH.out,h2',l7.out,Hz.out,Hr.out];rfl
 clear JC JD hHeld
 cases r
 ·go_wp2_with (go_at_call 166;refine (RA _ (aa.refl w2).drew).mono ?_;rintro e w4 ⟨rfl,k4⟩;clear RA)
  go_ret
  exact ⟨by rw [HN.out];rfl,kX.trans (K2.drew.trans k4)⟩
 ·go_wp2_with (go_at_call 166;refine (RA _ (aa.refl w2).drew).mono ?_;rintro e w4 ⟨rfl,k4⟩;clear RA;have e5:w4.cell? ⟨5,0,none⟩=some (.iface 284 (.pointer (some (er 5)))):=(HE.out.keeps (K2.drew.trans k4)).var 5 (by omega) (by omega))
  go_ret
  exact ⟨by rw [HN.out];rfl,kX.trans (K2.drew.trans k4)⟩
def jq (s:Sy) (c:Cl):Nat:=if iM s c=0 then (if eD s.af c.a c.no (eO s.tasks (jm s.af c.a.toNat)) then 0 else 5) else iM s c
def tI:Prop:=∀ (w:World) (a:Option Addr) (n cap:Nat) (ts:List ag) (b:Option Addr) (cap2:Nat) (xs:List Int),n <= cap->xs.length <= cap2->xs.length <= maxLen->fk w a n cap ts->Ns w b xs->Calls Tryz.prog 13 #[.slice a n cap,.slice b xs.length cap2] w fun e w'=>e = .returned (.int .i64 (eO ts xs)) /\ aa w w'
set_option linter.unusedSimpArgs false in
set_option maxHeartbeats 8000000 in
theorem JF (HB:tI) (HF:rr) {w:World} {lo ob:Nat} {v:Sv} {vs:List Lv} {s:Sy} {er:Nat->Addr} (h:bB w lo ob v vs s) (hlo:lo <= w.heap.size) (E:dZ w er) (hsz:bV s <= 1048576) (c:Cl) :
  Calls Tryz.prog 137 #[.pointer (some ⟨ob,0,none⟩),ck c] w (sM lo ob v vs s er (jq s c) (jX s c) w):=by
 obtain ⟨⟨ta,tn,ak⟩,⟨la,ln,aj⟩,⟨ga,gn,ao⟩,⟨fa,fn,aq⟩,⟨ra,rn,au⟩⟩:=v
 have kX:=cZ w (.cells (cc c) 32)
 have BC:Hid (ai (w.alloc (.cells (cc c) 32)) w.heap.size (cc c)):=ai.new _ _ _
 have VX:Hid (bB (w.alloc (.cells (cc c) 32)) lo ob ⟨⟨ta,tn,ak⟩,⟨la,ln,aj⟩,⟨ga,gn,ao⟩,⟨fa,fn,aq⟩,⟨ra,rn,au⟩⟩ vs s):=h.keeps kX
 have HE:Hid (dZ (w.alloc (.cells (cc c) 32)) er):=E.keeps kX
 have ru:Hid tI:=HB
 have tJ:Hid rr:=HF
 clear h E HB HF
 obtain ⟨cu,rv⟩:∃ n,Hid (iM s c=n):=⟨_,rfl⟩
 have Pz:cu=0∨cu=2∨cu=5:=by
  rw [<- rv.out]
  unfold iM
  split
  ·simp
  split <;> simp
 have CU:∀ w',aa (w.alloc (.cells (cc c) 32)) w'->Calls Tryz.prog 170 #[.pointer (some ⟨ob,0,none⟩),ck c] w' fun e w''=>e = .returned (fH er cu) /\ aa w' w'':=fun w' k=>by
  have:=JB (VX.out.keeps k) (HE.out.keeps k) hsz c
  rw [rv.out] at this
  exact this
 go_enter Tryz.func137,Tryz.ntmps137
 go_upto_region 1 with fail
 change Code.wp _ _ _ _ (w.alloc (.cells (cc c) 32))
 generalize w.alloc (.cells (cc c) 32)=X at *
 have HS:Hid (aA X ⟨⟨ta,tn,ak⟩,⟨la,ln,aj⟩,⟨ga,gn,ao⟩,⟨fa,fn,aq⟩,⟨ra,rn,au⟩⟩ s):=VX.out.own.on (by omega)
 have mG:Hid (s.tasks.length=tn):=HS.out.lay.tl
 have l7:Hid (s.af.length=ln):=HS.out.lay.ll
 have AO:tn <= 1048576:=by rw [<- mG.out];unfold bV at hsz;omega
 have hlm:ln <= 1048576:=by rw [<- l7.out];unfold bV bT at hsz;omega
 have rC:∀ q,X.cell? ⟨w.heap.size,q,none⟩=(cc c)[q]?:=BC.out.cells
 by_cases h0:cu=0
 rotate_left
 ·have hev:fH er cu = .iface 284 (.pointer (some (er cu))):=if_neg h0
  have HN:Hid (jq s c=cu):=by show jq s c=cu;unfold jq;rw [rv.out,if_neg h0]
  rw [hev] at CU
  go_wp2_with (go_at_call 170;refine (CU _ (aa.refl X)).mono ?_;rintro e w2 ⟨rfl,k2⟩;clear CU)
  go_ret
  rw [<- hev]
  exact yh VX.out kX k2 HN.out h0
 subst h0
 rw [show fH er 0 = .nilIface from rfl] at CU
 have ee:Hid (jq s c=if eD s.af c.a c.no (eO s.tasks (jm s.af c.a.toNat)) then 0 else 5):=by show jq s c=_;unfold jq;rw [rv.out,if_pos rfl]
 have hin:aF c.a 0 ((ln:Int) - 1)=true:=by
  have:=rv.out
  unfold iM at this
  rw [l7.out] at this
  cases hz:aF c.a 0 ((ln:Int) - 1)
  ·rw [hz] at this;simp at this
  ·rfl
 obtain ⟨ck1,cn,cp,ca,cb⟩:=c
 dsimp only at hin
 obtain ⟨ha0,ha1⟩:=dq.1 hin
 obtain ⟨j,rfl⟩:∃ j:Nat,ca=(j:Int):=⟨ca.toNat,by omega⟩
 obtain ⟨l,g9⟩:=bW (xs:=s.af) (k:=j) (by rw [l7.out];omega)
 obtain ⟨lb,cd,a',cap',ha,l0,l1,hwl,hws,hpl⟩:=HS.out.lay.l.tK g9
 dsimp only at ha
 subst ha
 have hjn:(j:Int) < (ln:Int):=by omega
 obtain ⟨bi,mu⟩:∃ z,Hid (eO s.tasks l.waits=z):=⟨_,rfl⟩
 obtain ⟨fb,pG⟩:∃ z,Hid (eD s.af j cn bi=z):=⟨_,rfl⟩
 have HN:Hid (jq s ⟨ck1,cn,cp,j,cb⟩=if fb then 0 else 5):=by
  show _=_
  rw [ee.out]
  dsimp only
  rw [Int.toNat_natCast,qL g9,mu.out,pG.out]
 have HC:Hid (jX s ⟨ck1,cn,cp,j,cb⟩={ s with af:=dV s.af j cn bi }):=by
  show _=_
  unfold jX
  dsimp only
  rw [Int.toNat_natCast,qL g9,mu.out]
 have BO:Hid (∀ w',aa X w'->Calls Tryz.prog 13 #[.slice ta tn ak,.slice a' l.waits.length cap'] w' fun e w''=>e = .returned (.int .i64 bi) /\ aa w' w''):=fun w' kk=>by
  have:=ru.out w' ta tn ak s.tasks a' cap' l.waits (Plain.le HS.out.tc) (Plain.le (hpl rfl)) hwl (HS.out.keeps kk).gM (hws.keeps kk)
  rw [mu.out] at this
  exact this
 have LF:Hid (∀ w',aa X w'->Calls Tryz.prog 172 #[.slice (some ⟨lb,cd,none⟩) ln aj,.int .i64 j,.int .i64 cn,.int .i64 bi] w' fun e w''=>∃ u us,e = .returned (.tuple #[u,.bool fb]) /\ Mine w'' w'.heap.size w''.heap.size u us (dV s.af j cn bi) /\ aa w' w''):=fun w' kk=>by
  have O:=HS.out.gL.keeps kk
  have:=tJ.out (some ⟨lb,cd,none⟩) aj s.af j cn bi w' O.size (by rw [O.len];exact (HS.out.keeps kk).lc) O.gP
  rw [O.len,pG.out] at this
  exact this
 have rL:∀ w',aa X w'->w'.cell? ⟨lb,cd+j*2+1,none⟩=some (.slice a' l.waits.length cap'):=l1
 have PA:Hid (l.waits.length <= maxLen):=hwl
 obtain ⟨wn,pR⟩:∃ n,Hid (l.waits.length=n):=⟨_,rfl⟩
 rw [pR.out] at BO rL
 clear l0 l1 hwl hws hpl ru tJ ee ha0 ha1 hin
 go_wp2_with fail
 go_at_call 170
 refine (CU _ (aa.refl X)).mono ?_
 rintro e w2 ⟨rfl,k2⟩
 clear CU rC
 have rC:∀ w',aa w2 w'->∀ q,w'.cell? ⟨w.heap.size,q,none⟩=(cc ⟨ck1,cn,cp,j,cb⟩)[q]?:=fun w' k=>(BC.out.keeps (k2.trans k)).cells
 have rB:∀ w',aa w2 w'->∀ q,w'.cell? ⟨ob,q,none⟩=(ae s ⟨⟨ta,tn,ak⟩,⟨some ⟨lb,cd,none⟩,ln,aj⟩,⟨ga,gn,ao⟩,⟨fa,fn,aq⟩,⟨ra,rn,au⟩⟩)[q]?:=fun w' k=>(VX.out.box.keeps (k2.trans k)).cells
 dsimp only [ae] at rB
 have JG:=fun w' (k:aa w2 w')=>rL w' (k2.trans k)
 have AQ:Hid _:=fun w' (k:aa w2 w')=>BO.out w' (k2.trans k)
 clear rL BO
 go_upto_region 4 with fail
 refine wp_region_held_drew (S:=(fun w'=>aa w2 w')) (by kernel_rfl) ?_ (fun hHeld => ?_)
 ·exact (aa.refl w2).drew
 refine ad.go [0,1,2,3,4,5,6,7,8,9,10,11,12] ?_
 iterate 13 (refine aJ (h := ?_);try simp only [ar])
 refine ad.nil ?_
 refine aO 13 (h:=fun K hK => ?_)
 go_simp
 (go_at_call 13;refine (AQ.out _ (by assumption)).mono ?_;rintro e w3 ⟨rfl,k3⟩)
 try go_wp2_with fail
 refine hK.out _ _ ?_ fun hHeld => ?_
 ·exact aa.trans (by assumption) (by assumption)
 clear hK K
 try simp only [ar]
 refine cU 14 (h := ?_)
 try simp only [ar]
 refine wpAnyH_done (by kernel_rfl) ?_ _
 have K3:aa w2 w3:=by assumption
 have JH:=fun w' (k:aa w3 w')=>rC w' (K3.trans k)
 have JI:=fun w' (k:aa w3 w')=>rB w' (K3.trans k)
 clear rC rB JG AQ k3 hHeld
 go_upto_region 5 with fail
 refine wp_region_held_drew (S:=(fun w'=>aa w3 w')) (by kernel_rfl) ?_ (fun hHeld => ?_)
 ·exact (aa.refl w3).drew
 refine ad.go [0,1,2,3,4,5,6,7,8] ?_
 iterate 9 (refine aJ (h := ?_);try simp only [ar])
 refine ad.nil ?_
 refine aO 9 (h:=fun K hK => ?_)
 go_simp
 (go_at_call 172;refine (LF.out _ (k2.trans (K3.trans (by assumption)))).mono ?_;rintro e w5 ⟨u8,mv,rfl,M8,k5⟩;obtain ⟨a8,c8,e8,-,-⟩:=M8.gP;obtain ⟨m8,qM⟩:∃ m,Hid ((dV s.af j cn bi).length=m):=⟨_,rfl⟩;rw [qM.out] at e8;subst e8)
 try go_wp2_with fail
 refine hK.out _ _ ?_ fun hHeld => ?_
 ·exact aa.trans (by assumption) (by assumption)
 clear hK K
 try simp only [ar]
 refine ad.go [10,11,12,13,14] ?_
 iterate 5 (refine aJ (h := ?_);try simp only [ar])
 refine ad.nil ?_
 refine wpAnyH_done (by kernel_rfl) ?_ _
 have K5:aa w3 w5:=by assumption
 have K4:aa X w3.drew:=k2.trans K3.drew
 have tL:aa X w5:=k2.trans (K3.trans K5)
 have HM:Hid (Mine w5 w3.heap.size w5.heap.size (.slice a8 m8 c8) mv (dV s.af j cn bi)):=M8
 clear JH JI LF hHeld M8
 cases fb
 ·have e5:w5.cell? ⟨5,0,none⟩=some (.iface 284 (.pointer (some (er 5)))):=(HE.out.keeps tL).var 5 (by omega) (by omega)
  go_wp2
  go_ret
  exact yh VX.out kX tL HN.out (by decide)
 ·have hl3:lo <= w3.heap.size:=Nat.le_trans hlo (kX.trans (k2.trans K3)).size
  have hw3:w.heap.size <= w3.heap.size:=(kX.trans (k2.trans K3)).size
  have G:=aP.af (VX.out.keeps (k2.trans K3)).g K5 (x:=⟨a8,m8,c8⟩) HM.out
  have HG:Hid (bB (w5.setCell ⟨ob,3,none⟩ (.slice a8 m8 c8)) lo ob ⟨⟨ta,tn,ak⟩,⟨a8,m8,c8⟩,⟨ga,gn,ao⟩,⟨fa,fn,aq⟩,⟨ra,rn,au⟩⟩ mv { s with af:=dV s.af j cn bi }):=G.var
  have H6:Hid (∀ b,nS (.slice a8 m8 c8) mv b->w.heap.size <= b):=fun b hb=>Nat.le_trans hw3 (HM.out.aG hb).1
  obtain ⟨_,g1,g2⟩:=VX.out.box.keeps tL
  dsimp only [ae] at g1
  clear G
  go_wp2
  go_ret
  refine ⟨by rw [HN.out];rfl,aK.putC (.inl rfl) [.slice a8 m8 c8] 3 (aK.of (kX.trans tL)),fun _=>⟨_,mv,by rw [HC.out];exact HG.out,?_⟩,_,_,HG.out.box,rfl⟩
  intro i b hb
  match i,hb with
  | 0,hb=>exact .inl ⟨0,hb⟩
  | 1,hb=>exact .inr (H6.out b hb)
  | 2,hb=>exact .inl ⟨2,hb⟩
  | 3,hb=>exact .inl ⟨3,hb⟩
  | 4,hb=>exact .inl ⟨4,hb⟩
end Go.Proofs.YteagpjlgjfaclaaGreatDoor
